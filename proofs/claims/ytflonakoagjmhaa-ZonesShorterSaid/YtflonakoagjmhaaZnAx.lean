/- The chapter's examples, for the program's functions. -/
import Derived.Test.YtflonakoagjmhaaZnRn2
import Derived.Test.YtflonakoagjmhaaZnFw
namespace Go.Proofs.Ytflonakoagjmhaa.Zn
open Go.RowKit Go.Lib Go.Shelf Go.Proofs.Ytflonakoagjmhaa Go.Maps

def awl : List Zm := [⟨⟨#[104, 111, 109, 101]⟩, [⟨#[52, 57]⟩, ⟨#[52, 57, 51, 48]⟩]⟩, ⟨⟨#[109, 111, 98, 105, 108, 101]⟩, [⟨#[52, 57, 49, 53]⟩]⟩]
def awk : List Zm := [⟨⟨#[109, 111, 98, 105, 108, 101]⟩, [⟨#[52, 57, 49, 53]⟩]⟩, ⟨⟨#[104, 111, 109, 101]⟩, [⟨#[52, 57]⟩]⟩]
def awt : List Zm := [⟨⟨#[104, 111, 109, 101]⟩, [⟨#[52, 57]⟩, ⟨#[52, 57, 51, 48]⟩, ⟨#[52, 57, 49, 53]⟩]⟩, ⟨⟨#[109, 111, 98, 105, 108, 101]⟩, [⟨#[52, 57, 49, 53]⟩]⟩]
def awm : List Zm := [⟨⟨#[104, 111, 109, 101]⟩, [⟨#[52, 57]⟩]⟩, ⟨⟨#[109, 111, 98, 105, 108, 101]⟩, [⟨#[52, 57, 49, 53]⟩]⟩]
theorem fit_two {a b : Zm} (ha : a.ps.length ≤ 1000000) (ha1 : a.nm.size ≤ 1000) (ha2 : ∀ p ∈ a.ps, p.size ≤ 1000) (hb : b.ps.length ≤ 1000000) (hb1 : b.nm.size ≤ 1000) (hb2 : ∀ p ∈ b.ps, p.size ≤ 1000) : Fit [a, b] := by
  intro z hz
  have hm : (1000 : Nat) ≤ maxLen := by decide
  rcases List.mem_cons.1 hz with rfl | hz
  · exact ⟨ha, Nat.le_trans ha1 hm, fun p hp => Nat.le_trans (ha2 p hp) hm⟩
  · rw [List.mem_singleton.1 hz]
    exact ⟨hb, Nat.le_trans hb1 hm, fun p hp => Nat.le_trans (hb2 p hp) hm⟩
theorem awl_fit : Fit awl := fit_two (by decide) (by decide) (by decide) (by decide) (by decide) (by decide)
theorem awk_fit : Fit awk := fit_two (by decide) (by decide) (by decide) (by decide) (by decide) (by decide)
theorem awt_fit : Fit awt := fit_two (by decide) (by decide) (by decide) (by decide) (by decide) (by decide)
/-- Two zones as three literals lay them. -/
theorem zs_lit (w : World) (p q : List ByteArray) (n1 n2 : ByteArray) (hp : p.length ≤ maxLen) (hq : q.length ≤ maxLen) (L : World)
    (hL : ((w.alloc (.cells (p.map Value.string).toArray 9)).alloc (.cells (q.map Value.string).toArray 9)).alloc (.cells #[.string n1, .slice (some ⟨w.heap.size, 0, none⟩) p.length p.length, .string n2, .slice (some ⟨w.heap.size + 1, 0, none⟩) q.length q.length] 37) = L) :
    ZsR L (some ⟨w.heap.size + 1 + 1, 0, none⟩) [⟨n1, p⟩, ⟨n2, q⟩] ∧ Below w.heap.size w L ∧ L.heap.size = w.heap.size + 3 := by
  have h1 : Blk L w.heap.size 9 (p.map Value.string).toArray := hL ▸ ((Blk.new w _ _).alloc _).alloc _
  have h2 : Blk L (w.heap.size + 1) 9 (q.map Value.string).toArray := by
    have h := (Blk.new (w.alloc (.cells (p.map Value.string).toArray 9)) 9 (q.map Value.string).toArray).alloc (.cells #[.string n1, .slice (some ⟨w.heap.size, 0, none⟩) p.length p.length, .string n2, .slice (some ⟨w.heap.size + 1, 0, none⟩) q.length q.length] 37)
    rw [World.size_alloc, hL] at h; exact h
  have h3 : Blk L (w.heap.size + 1 + 1) 37 #[.string n1, .slice (some ⟨w.heap.size, 0, none⟩) p.length p.length, .string n2, .slice (some ⟨w.heap.size + 1, 0, none⟩) q.length q.length] := by
    have h := Blk.new ((w.alloc (.cells (p.map Value.string).toArray 9)).alloc (.cells (q.map Value.string).toArray 9)) 37 #[.string n1, .slice (some ⟨w.heap.size, 0, none⟩) p.length p.length, .string n2, .slice (some ⟨w.heap.size + 1, 0, none⟩) q.length q.length]
    rw [World.size_alloc, World.size_alloc, hL] at h; exact h
  have t1 : ∀ {g : Nat} {l : List ByteArray}, Blk L g 9 (l.map Value.string).toArray → TsR L (some ⟨g, 0, none⟩) l := fun {g l} h k hk => by
    refine ⟨g, 0, rfl, h.lt, ?_⟩
    rw [Nat.zero_add, h.cell k]
    simp [List.getD_eq_getElem?_getD, List.getElem?_eq_getElem hk]
  refine ⟨fun k hk => ?_, ?_, ?_⟩
  · match k, hk with
    | 0, _ => exact ⟨_, 0, some ⟨w.heap.size, 0, none⟩, p.length, rfl, h3.lt, h3.cell 0, h3.cell 1, Nat.le_refl _, hp, t1 h1, fun a ha _ => by injection ha with ha; rw [← ha]; exact h1.lt⟩
    | 1, _ => exact ⟨_, 0, some ⟨w.heap.size + 1, 0, none⟩, q.length, rfl, h3.lt, h3.cell 2, h3.cell 3, Nat.le_refl _, hq, t1 h2, fun a ha _ => by injection ha with ha; rw [← ha]; exact h2.lt⟩
    | k + 2, hk => exact absurd hk (by simp)
  · rw [← hL]
    exact ((below_one w _).alloc (by simp) _).alloc (by simp; omega) _
  · rw [← hL]; simp
theorem aw_find {A : Option Addr} {n c : Nat} {l : List Zm} {W : World} (hA : ZsR W A l) (hn : l.length = n) (hc : n ≤ c) (hm : c ≤ maxLen) (hf : Fit l) (s V : ByteArray) (b : Bool) (hs : s.size ≤ maxLen) (hV : fnd (zos l) s.data.toList = V.data.toList) (hb : (!V.data.toList.isEmpty) = b) :
    Calls Try.prog 16 #[.slice A n c, .string s] W fun e w' => e = .returned (.tuple #[.string V, .bool b]) ∧ Below W.heap.size W w' := by
  refine (find_any A n c l s W hA hn hc hm hf hs).mono ?_
  rintro e w' ⟨v, rfl, hv, -, hb2⟩
  rw [hV] at hv ⊢
  rw [ba_ext hv, hb]
  exact ⟨rfl, hb2⟩
theorem aw_f1 (A : Option Addr) (W : World) (hA : ZsR W A awl) : Calls Try.prog 16 #[.slice A 2 2, .string ⟨#[52, 57, 49, 53, 49, 50, 51, 52]⟩] W fun e w' => e = .returned (.tuple #[.string ⟨#[109, 111, 98, 105, 108, 101]⟩, .bool true]) ∧ Below W.heap.size W w' :=
  aw_find hA rfl (Nat.le_refl _) (by decide) awl_fit ⟨#[52, 57, 49, 53, 49, 50, 51, 52]⟩ ⟨#[109, 111, 98, 105, 108, 101]⟩ true (by decide) (by decide +kernel) (by decide)
theorem aw_f2 (A : Option Addr) (W : World) (hA : ZsR W A awl) : Calls Try.prog 16 #[.slice A 2 2, .string ⟨#[52, 57, 51, 48]⟩] W fun e w' => e = .returned (.tuple #[.string ⟨#[104, 111, 109, 101]⟩, .bool true]) ∧ Below W.heap.size W w' :=
  aw_find hA rfl (Nat.le_refl _) (by decide) awl_fit ⟨#[52, 57, 51, 48]⟩ ⟨#[104, 111, 109, 101]⟩ true (by decide) (by decide +kernel) (by decide)
theorem aw_f3 (A : Option Addr) (W : World) (hA : ZsR W A awl) : Calls Try.prog 16 #[.slice A 2 2, .string ⟨#[51, 51]⟩] W fun e w' => e = .returned (.tuple #[.string ⟨#[]⟩, .bool false]) ∧ Below W.heap.size W w' :=
  aw_find hA rfl (Nat.le_refl _) (by decide) awl_fit ⟨#[51, 51]⟩ ⟨#[]⟩ false (by decide) (by decide +kernel) (by decide)
theorem awl_vld : Vld (zos awl) := ck_vld.1 (by decide +kernel)
theorem awl_min : MinL (zos awl) (zos awm) := by
  refine minL_of awl_vld ?_ ?_ ?_ ?_
  · show List.Pairwise _ [(⟨[104, 111, 109, 101], [[52, 57]]⟩ : Zo), ⟨[109, 111, 98, 105, 108, 101], [[52, 57, 49, 53]]⟩]
    exact List.pairwise_cons.2 ⟨fun y hy => by rw [List.mem_singleton.1 hy]; exact (by decide +kernel : Op.bytesLess [104, 111, 109, 101] [109, 111, 98, 105, 108, 101] = true), List.pairwise_singleton _ _⟩
  · intro n; exact Iff.rfl
  · intro z hz
    rcases List.mem_cons.1 (show z ∈ [(⟨[104, 111, 109, 101], [[52, 57]]⟩ : Zo), ⟨[109, 111, 98, 105, 108, 101], [[52, 57, 49, 53]]⟩] from hz) with rfl | hz
    · exact List.pairwise_singleton _ _
    · rw [List.mem_singleton.1 hz]; exact List.pairwise_singleton _ _
  · intro y hy z hz he p
    have k1 : keepB (val (pairs (zos awl))) [52, 57] [104, 111, 109, 101] = true := by decide +kernel
    have k2 : keepB (val (pairs (zos awl))) [52, 57, 51, 48] [104, 111, 109, 101] = false := by decide +kernel
    have k3 : keepB (val (pairs (zos awl))) [52, 57, 49, 53] [109, 111, 98, 105, 108, 101] = true := by decide +kernel
    rcases List.mem_cons.1 (show y ∈ [(⟨[104, 111, 109, 101], [[52, 57]]⟩ : Zo), ⟨[109, 111, 98, 105, 108, 101], [[52, 57, 49, 53]]⟩] from hy) with rfl | hy
    · rcases List.mem_cons.1 (show z ∈ [(⟨[104, 111, 109, 101], [[52, 57], [52, 57, 51, 48]]⟩ : Zo), ⟨[109, 111, 98, 105, 108, 101], [[52, 57, 49, 53]]⟩] from hz) with rfl | hz
      · constructor
        · intro hp; rw [List.mem_singleton.1 hp]; exact ⟨List.mem_cons_self .., k1⟩
        · rintro ⟨hp, hk⟩
          rcases List.mem_cons.1 hp with rfl | hp
          · exact List.mem_cons_self ..
          · rw [List.mem_singleton.1 hp] at hk
            exact absurd (hk.symm.trans k2) (by decide)
      · rw [List.mem_singleton.1 hz] at he; exact absurd he (by decide)
    · rw [List.mem_singleton.1 hy] at he ⊢
      rcases List.mem_cons.1 (show z ∈ [(⟨[104, 111, 109, 101], [[52, 57], [52, 57, 51, 48]]⟩ : Zo), ⟨[109, 111, 98, 105, 108, 101], [[52, 57, 49, 53]]⟩] from hz) with rfl | hz
      · exact absurd he (by decide)
      · rw [List.mem_singleton.1 hz]
        constructor
        · intro hp
          refine ⟨hp, ?_⟩
          rw [List.mem_singleton.1 hp]; exact k3
        · exact fun h => h.1
theorem aw_min (A : Option Addr) (W : World) (hA : ZsR W A awl) : Calls Try.prog 21 #[.slice A 2 2] W fun e w' => ∃ A' c, e = .returned (.slice A' 2 c) ∧ ZsR w' A' awm ∧ Below W.heap.size W w' := by
  refine (minimal_any A 2 2 awl W hA rfl (Nat.le_refl _) (by decide) awl_fit).mono ?_
  intro e w' h
  unfold MnOut at h
  rw [if_pos (show ckZ (zos awl) = 0 by decide +kernel)] at h
  obtain ⟨A', c, M, rfl, h1, h2, h3, h4, h5, h6, h7⟩ := h
  have hM : M = awm := zos_inj.1 (canon_unique h4 awl_min)
  subst hM
  exact ⟨A', c, rfl, h3, h7⟩
theorem aw_names (A : Option Addr) (W : World) (hA : ZsR W A awk) : Calls Try.prog 14 #[.slice A 2 2] W fun e w' => ∃ A' c, e = .returned (.slice A' 2 c) ∧ TsR w' A' [⟨#[104, 111, 109, 101]⟩, ⟨#[109, 111, 98, 105, 108, 101]⟩] ∧ Below W.heap.size W w' := by
  refine (names_any A 2 2 awk W hA rfl (Nat.le_refl _) (by decide) awk_fit).mono ?_
  intro e w' h
  unfold NmOut at h
  rw [if_pos (show ckZ (zos awk) = 0 by decide +kernel)] at h
  obtain ⟨A', c, L, rfl, h1, h2, h3, h4, h5, h6, h7⟩ := h
  have hL : L.map (fun s => s.data.toList) = [[104, 111, 109, 101], [109, 111, 98, 105, 108, 101]] := by
    refine asc_unique ltN_irr ltN_asym h4 ?_ ?_
    · exact List.pairwise_cons.2 ⟨fun y hy => by rw [List.mem_singleton.1 hy]; exact (by decide +kernel : Op.bytesLess [104, 111, 109, 101] [109, 111, 98, 105, 108, 101] = true), List.pairwise_singleton _ _⟩
    · intro x
      rw [h5]
      show x ∈ [[109, 111, 98, 105, 108, 101], [104, 111, 109, 101]] ↔ x ∈ [[104, 111, 109, 101], [109, 111, 98, 105, 108, 101]]
      simp only [List.mem_cons, List.not_mem_nil, or_false]
      exact Or.comm
  have hLL : L = [⟨#[104, 111, 109, 101]⟩, ⟨#[109, 111, 98, 105, 108, 101]⟩] := by
    match L, hL with
    | [a, b], hL =>
      rw [List.map_cons, List.map_cons, List.map_nil] at hL
      injection hL with e1 e2
      injection e2 with e2 e3
      rw [ba_ext (show a.data.toList = (⟨#[104, 111, 109, 101]⟩ : ByteArray).data.toList from e1), ba_ext (show b.data.toList = (⟨#[109, 111, 98, 105, 108, 101]⟩ : ByteArray).data.toList from e2)]
  subst hLL
  exact ⟨A', c, rfl, h3, h7⟩
theorem aw_equal (A B : Option Addr) (W : World) (hA : ZsR W A awl) (hB : ZsR W B awk) : Calls Try.prog 18 #[.slice A 2 2, .slice B 2 2] W fun e w' => e = .returned (.bool true) ∧ Below W.heap.size W w' := by
  refine (equal_any A B 2 2 2 2 awl awk W hA rfl (Nat.le_refl _) (by decide) awl_fit hB rfl (Nat.le_refl _) (by decide) awk_fit).mono ?_
  rintro e w' ⟨rfl, h⟩
  exact ⟨by rw [show eqZ (zos awl) (zos awk) = true by decide +kernel], h⟩
theorem aw_check (A : Option Addr) (W : World) (hA : ZsR W A awt) : Calls Try.prog 11 #[.slice A 2 2] W fun e w' => e = .returned (.int .i64 10) ∧ Below W.heap.size W w' := by
  refine (check_any A 2 2 awt W hA rfl (Nat.le_refl _) (by decide) awt_fit).mono ?_
  rintro e w' ⟨rfl, h⟩
  exact ⟨by rw [show ckZ (zos awt) = 10 by decide +kernel], h⟩
end Go.Proofs.Ytflonakoagjmhaa.Zn
