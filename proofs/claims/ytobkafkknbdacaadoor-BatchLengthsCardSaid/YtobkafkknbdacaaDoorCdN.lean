/- Walk: what a decoder returns, and Number. -/
import Derived.Test.YtobkafkknbdacaaDoorRows
import Derived.Test.YtobkafkknbdacaaDoorCdR
import Derived.Laws.CopyOwn
namespace Go.Proofs.YtobkafkknbdacaaDoor
open Go.RowKit

theorem number_any {w0 W : World} {g : Nat} {l : List Int} {er : Int} (h : Rd w0 W g l er) :
    Calls Tryd.prog 56 #[.pointer (some ⟨g, 0, none⟩)] W (Steps w0 W g (.int .i64 (numR (l, er)).1) (numR (l, er)).2) := by
  by_cases he : er = 0
  · subst he
    by_cases hd : (dec 0 0 l).1 = 0
    · simp only [numR, hd, if_true]
      exact number_ok h hd
    · simp only [numR, hd, if_true, if_false]
      exact number_err h _ rfl hd
  · rw [numR_stop he]
    exact number_stop h he
theorem below_drawn {B : Nat} {a w : World} (h : Below B a w) (n : Nat) : Below B a (w.drewN n) := ⟨h.os, h.tape, h.output, h.size, h.block⟩
theorem cell_new0 (w : World) (a b : Value) (t : TypeId) : (w.alloc (.cells #[a, b] t)).cell? ⟨w.heap.size, 0, none⟩ = some a := by
  have h := heap_alloc_new w (.cells #[a, b] t)
  simp only [World.cell?, h]; rfl
theorem own_full {w : World} {base g n : Nat} {e : TypeId} {xs : List Value} (h : w.ownsRow base e 1 (.slice (some ⟨g, 0, none⟩) n n) n xs) : base ≤ g ∧ w.heap[g]? = some (.cells xs.toArray e (0, 0)) ∧ n ≤ maxLen := by
  rcases h.2 with ⟨hv, _⟩ | ⟨g', cap, cur, hv, hb, hg, hnc, hcm, hcs, htake⟩
  · cases hv
  · simp only [Value.slice.injEq, Option.some.injEq, Addr.mk.injEq, and_true, true_and] at hv
    obtain ⟨rfl, rfl⟩ := hv
    refine ⟨hb, ?_, hcm⟩
    have : xs.toArray = cur := by
      rw [← htake, List.take_of_length_le (by simp; omega)]
    rw [this]; exact hg
theorem own_of {w : World} {base g n : Nat} {e : TypeId} {xs : List Value} (hb : base ≤ g) (hg : w.heap[g]? = some (.cells xs.toArray e (0, 0))) (hn : n ≤ maxLen) (hl : xs.length = n) : w.ownsRow base e 1 (.slice (some ⟨g, 0, none⟩) n n) n xs :=
  ⟨by omega, .inr ⟨g, n, xs.toArray, rfl, hb, hg, Nat.le_refl _, hn, by simp [hl], by simp [← hl]⟩⟩
theorem splice_all {L cs : List Value} (h : cs.length = L.length) : splice L 0 cs = cs := by
  unfold splice; rw [List.drop_eq_nil_of_le (by omega)]; simp
theorem Byt.src {w : World} {A : Option Addr} {n c : Nat} {l : List Int} (h : Byt w A n c l) (h0 : 0 < (C8 l).length) : ∃ ad, A = some ad ∧ ∀ j v, (C8 l)[j]? = some v → w.cell? (ad.add j) = some v := by
  obtain ⟨h1, h2, h3⟩ := h.has
  rcases h3 with ⟨_, h4, _⟩ | ⟨x, e, h3⟩
  · omega
  · exact ⟨x, e, fun j v hv => (h3 j v hv).2⟩


set_option maxHeartbeats 2000000 in
theorem resInt_err {A : Option Addr} {n c : Nat} {er : Int} {w : World} (z : Int) (her : er ≠ 0) :
    Calls Tryd.prog 57 #[.agg #[.slice A n c, .int .i64 er], .int .i64 z] w fun e w' => e = .returned (.tuple #[.int .i64 0, .slice none 0 0, .int .i64 er]) ∧ Below w.heap.size w w' := by
  have he1 : (er == 0) = false := by simp [her]
  have he2 : (er != 0) = true := by simp [her]
  go_enter Tryd.func57, Tryd.ntmps57
  go_wp2_with fail
  go_quiet (fail)
  go_wp2_with fail
  go_ret3
  exact ⟨rfl, below_drawn ((Below.refl _ _).alloc (Nat.le_refl _) _) _⟩
set_option maxHeartbeats 2000000 in
theorem resInt_ok {A : Option Addr} {n c : Nat} {l : List Int} {w : World} (z : Int) (hA : Byt w A n c l) (hn : n ≤ 1000000000) :
    Calls Tryd.prog 57 #[.agg #[.slice A n c, .int .i64 0], .int .i64 z] w fun e w' => ∃ v, e = .returned (.tuple #[.int .i64 z, v, .int .i64 0]) ∧ Own w' w.heap.size v l ∧ Below w.heap.size w w' := by
  obtain ⟨i0, hi0, hz0, hz1, hz2⟩ := info_parts byteInfo
  have hl := hA.len
  have hcl : (C8 l).length = n := by rw [C8_len, hl]
  have h0 := (Below.refl w.heap.size w).alloc (Nat.le_refl _) (.cells #[.slice A n c, .int .i64 0] 96)
  have hin : (Tryd.prog.info? 5).map (·.size) = some 1 := by rw [hi0]; simp [hz1]
  have HI := Lib.hid hin; have H0 := Lib.hid h0; have HCL := Lib.hid hcl; have HL := Lib.hid hl
  have HA := Lib.hid hA; clear hA h0 hin hcl hl
  go_enter Tryd.func57, Tryd.ntmps57
  go_wp2_with (first
    | (at_make; refine wpList_make_full _ rfl _ _ 37 rfl w.heap.size 5 i0 (.int .u8 0) 1 Tryd.underlying37 hi0 hz0 hz1 _ _ _ _ n rfl rfl rfl rfl (by rw [hz2]; omega) (by unfold maxLen; omega) (by simp) ?_; intro w1 hown0 hg0; have hb1 : Below w.heap.size w w1 := (H0.out.grown hg0 (by simp) (fun g hg' => by cases hg')); have hr0 : w1.cell? ⟨w.heap.size, 0, none⟩ = some (.slice A n c) := hg0.cell (cell_new0 _ _ _ _) (by simp); rw [show (w.alloc (.cells #[.slice A n c, .int .i64 0] 96)).heap.size = w.heap.size + 1 by simp] at hown0; have HF := Lib.hid (own_full hown0); have HB1 := Lib.hid hb1; clear hown0 hg0 hb1)
    | (refine wpList_copy_splice rfl (.tmp 19) (.tmp 21) 37 37 rfl 5 Tryd.underlying37 HI.out _ _ _ _ _ _ rfl rfl _ 0 _ 5 HF.out.2.1 (C8 l) (by rw [HCL.out]; exact (Nat.min_self n).symm) (fun hp => ⟨rfl, (HA.out.below HB1.out).src hp⟩) (by rw [HCL.out]; simp [madeCells]) (C8_one l) w.heap.size w HB1.out HF.out.1 ?_; intro w2 hg2 hb2))
  go_ret3
  refine ⟨_, rfl, ⟨?_, HA.out.ran⟩, hb2⟩
  rw [HL.out]
  refine own_of HF.out.1 ?_ HF.out.2.2 HCL.out
  have h2 := hg2.out
  rw [splice_all (by rw [HCL.out]; simp [madeCells])] at h2
  exact h2
theorem dec_len : ∀ (b : List Int) (i acc : Nat), (dec i acc b).2.2.length ≤ b.length
  | [], _, _ => by simp [dec]
  | x :: t, i, acc => by
    simp only [dec]
    split
    · simp
    · split
      · have := dec_len t (i + 1) (acc + (x % 128).toNat * 128 ^ i); simp; omega
      · simp
theorem numR_len (s : St) : (numR s).2.1.length ≤ s.1.length := by
  unfold numR
  split
  · split
    · exact dec_len _ _ _
    · simp
  · simp

set_option maxHeartbeats 2000000 in
theorem codNumber_any {A : Option Addr} {n c : Nat} {l : List Int} {w : World} (hA : Byt w A n c l) (hn : n ≤ 1000000000) :
    Calls Tryd.prog 47 #[.slice A n c] w fun e w' => ∃ v, e = .returned (.tuple #[.int .i64 (numR (l, 0)).1, v, .int .i64 (numR (l, 0)).2.2]) ∧ Own w' w.heap.size v (numR (l, 0)).2.1 ∧ Below w.heap.size w w' := by
  have hl := hA.len
  have h0 := (Below.refl w.heap.size w).alloc (Nat.le_refl _) (.cells #[.slice A n c, .int .i64 0] 96)
  have hR : Rd w (w.alloc (.cells #[.slice A n c, .int .i64 0] 96)) w.heap.size l 0 := ⟨rfl, A, n, c, l, heap_alloc_new _ _, hA, fun _ => rfl, h0⟩
  have HN := Lib.hid (number_any hR)
  have hle := numR_len (l, 0)
  have herr := numR_err (l, 0)
  obtain ⟨S, hS⟩ : ∃ S, numR (l, 0) = S := ⟨_, rfl⟩
  rw [hS] at HN hle herr ⊢
  obtain ⟨V, R, er⟩ := S
  have HLE := Lib.hid hle; have HER := Lib.hid herr
  have HL := Lib.hid hl
  have HNN := Lib.hid hn
  clear hA hS hle hl h0 hR herr hn
  go_enter Tryd.func47, Tryd.ntmps47
  by_cases her : er = 0
  · subst her
    go_wp2_with (first
      | (go_at_call 56; refine HN.out.mono ?_; rintro e w1 ⟨rfl, ⟨hg, A1, n1, c1, ys, hB, hA1, hys, hb1⟩, hgr⟩; obtain rfl := hys rfl; have c0 := hB.cell0; have c1' := hB.cell1; have HB1 := Lib.hid hb1; have hn1 : n1 ≤ 1000000000 := (by have h1 := HLE.out; have h2 := hA1.len; have h3 := HL.out; have h4 := HNN.out; simp only at h1; omega); have HR := Lib.hid (fun (z : Int) => resInt_ok z (hA1.below hb1) hn1); clear hB hA1 hb1 hgr hg)
      | (go_at_call 57; refine (HR.out _).mono ?_; rintro e w2 ⟨v2, rfl, ho2, hb2⟩))
    go_ret3
    exact ⟨v2, rfl, ho2.mono HB1.out.size, HB1.out.trans (hb2.mono HB1.out.size)⟩
  · go_wp2_with (first
      | (go_at_call 56; refine HN.out.mono ?_; rintro e w1 ⟨rfl, ⟨hg, A1, n1, c1, ys, hB, hA1, hys, hb1⟩, hgr⟩; have c0 := hB.cell0; have c1' := hB.cell1; have HB1 := Lib.hid hb1; have HR := Lib.hid (fun (z : Int) => resInt_err (A := A1) (n := n1) (c := c1) (w := w1) z her); clear hB hA1 hb1 hgr hg)
      | (go_at_call 57; refine (HR.out _).mono ?_; rintro e w2 ⟨rfl, hb2⟩))
    go_ret3
    obtain ⟨h1, h2⟩ := HER.out her
    subst h1; subst h2
    exact ⟨_, rfl, own_none _ _, HB1.out.trans (hb2.mono HB1.out.size)⟩
end Go.Proofs.YtobkafkknbdacaaDoor
