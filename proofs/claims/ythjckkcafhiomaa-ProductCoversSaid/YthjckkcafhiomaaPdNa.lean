/- Walk: product.Names. -/
import Derived.Test.YthjckkcafhiomaaPdK
import Derived.Test.YthjckkcafhiomaaPdCz
import Derived.Test.YthjckkcafhiomaaPdFN
namespace Go.Proofs.Ythjckkcafhiomaa.Pd
open Go.RowKit

/-- The names of the first k. -/
def kn (F : List Pr) (k : Nat) : List ByteArray := (F.take k).map (·.nm)
theorem kn_len {F : List Pr} {k : Nat} (h : k ≤ F.length) : (kn F k).length = k := by unfold kn; simp; omega
theorem kn_next {F : List Pr} {k : Nat} (h : k < F.length) : kn F (k + 1) = kn F k ++ [(F.getD k pr0).nm] := by
  unfold kn; rw [take_next h, List.map_append]; rfl
theorem kn_all (F : List Pr) : kn F F.length = F.map (·.nm) := by unfold kn; rw [List.take_length]
theorem txt_src {w : World} {g : Nat} {t : TypeId} {s : ByteArray} (h : Blk w g t #[.string s]) : ∀ j v, ([Value.string s])[j]? = some v → w.cell? ((⟨g, 0, none⟩ : Addr).add j) = some v := fun j v hj => by
  rw [add_none, Nat.zero_add, h.cell j, ← hj]
  simp
/-- The names at an instant. -/
def namesP (l : List Pr) (t : Int) : List ByteArray := cmpl ((l.filter (qN t)).map (·.nm))
def TxsOut (L : List ByteArray) (w : World) (e : Ending) (w' : World) : Prop :=
  ∃ A c, e = .returned (.slice A L.length c) ∧ L.length ≤ c ∧ c ≤ maxLen ∧ ZsR w' A L ∧ Below w.heap.size w w'
set_option maxRecDepth 100000 in
set_option maxHeartbeats 8000000 in
theorem names_any (A : Option Addr) (n c : Nat) (l : List Pr) (t : Int) (w : World) (hA : PrR w A l) (hn : l.length = n) (h6 : n ≤ 1000000) :
    Calls Try.prog 17 #[.slice A n c, .int .i64 t] w (TxsOut (namesP l t) w) := by
  obtain ⟨b0, hb0⟩ : ∃ b, w.heap.size = b := ⟨_, rfl⟩
  obtain ⟨L, hL⟩ : ∃ L, w.alloc (.cells #[.int .i64 t] 3) = L := ⟨_, rfl⟩
  have hBL : Below w.heap.size w L := hL ▸ below_one w _
  have h2 : Blk L b0 3 #[.int .i64 t] := hL ▸ hb0 ▸ Blk.new w _ _
  have HF := Lib.hid (filterN A n c l t b0 L h2 (hA.below hBL) hn h6)
  have HBL := Lib.hid hBL
  have HOK := Lib.hid (show ∀ p ∈ l.filter (qN t), PrOk L p from fun p hp => (hA.ok p (List.mem_filter.1 hp).1).below hBL)
  have hle : (l.filter (qN t)).length ≤ 1000000 := Nat.le_trans (List.length_filter_le _ _) (by omega)
  unfold namesP
  obtain ⟨F, hF⟩ : ∃ F, l.filter (qN t) = F := ⟨_, rfl⟩
  rw [hF] at HF HOK hle ⊢
  obtain ⟨N, hN⟩ : ∃ N, F.length = N := ⟨_, rfl⟩
  rw [hN] at hle
  have HN := Lib.hid hN
  have HSZ := Lib.hid (show ∀ s ∈ F.map (·.nm), s.size ≤ maxLen from fun s hs => by obtain ⟨p, hp, rfl⟩ := List.mem_map.1 hs; exact (HOK.out p hp).nm)
  obtain ⟨i0, hi0, hz0, hz1, hz2⟩ := info_parts strInfo
  clear hA hn hBL h2 hF hN
  go_enter Try.func17, Try.ntmps17
  go_wp2_with (go_at_call 26; (with_reducible refine HF.out.mono ?_); rintro e w1 ⟨v1, rfl, ho1, hb1⟩; obtain ⟨A1, m1, hv1, x1, x2, hrd, -⟩ := pr_own ho1 rfl (fun p hp => (HOK.out p hp).below hb1); rw [HN.out] at hv1; subst hv1; have HRD := Lib.hid hrd; have HB1 := Lib.hid (HBL.out.trans (hb1.mono HBL.out.size)); clear ho1 hb1 hrd x1 x2)
  clear hL hb0
  go_loopw [5, 12] (fun v iv wr => ∃ (k : Nat) (u : Value), u = v ∧ iv = .int .i64 k ∧ k ≤ N ∧ Hid (Below w1.heap.size w1 wr) ∧ Hid (wr.ownsRow w1.heap.size 9 1 u k ((kn F k).map Value.string))) (fun _ iv _ => N - (intOf iv).toNat)
  case atStart => exact ⟨0, _, rfl, rfl, by omega, Lib.hid (Below.refl _ _), Lib.hid (World.ownsRow_nil _ _ _ _)⟩
  case round =>
    obtain ⟨k, v, rfl, rfl, hk, HB, HO⟩ := hrel
    by_cases hlt : k < N
    · have hkl : k < F.length := by rw [HN.out]; exact hlt
      have hlt' : (k : Int) < (N : Int) := by omega
      obtain ⟨bk, off, rfl, hbl, hcs, -⟩ := HRD.out k hkl
      have hcs := hcs.below HB.out hbl
      have HX := Lib.hid (kn_next hkl)
      obtain ⟨p, hp⟩ : ∃ p, F.getD k pr0 = p := ⟨_, rfl⟩
      rw [hp] at hcs HX
      obtain ⟨pn, fr, fe, ca, pr, pA, pN, pC, bs⟩ := p
      unfold Pr.cells at hcs
      simp only at hcs HX
      obtain ⟨e0, e1, e2, e3, e4, e5⟩ := hcs.all
      obtain ⟨R, hR⟩ : ∃ R, wr.alloc (.cells #[.string pn, .int .i64 fr, .int .i64 fe, .string ca, .bool pr, .slice pA pN pC] 29) = R := ⟨_, rfl⟩
      obtain ⟨g, hg⟩ : ∃ g, wr.heap.size = g := ⟨_, rfl⟩
      have hQ : Blk R g 29 #[.string pn, .int .i64 fr, .int .i64 fe, .string ca, .bool pr, .slice pA pN pC] := hR ▸ hg ▸ Blk.new wr _ _
      have HBR := Lib.hid (HB.out.trans ((hR ▸ below_one wr _ : Below wr.heap.size wr R).mono HB.out.size))
      have HOR : Hid (R.ownsRow w1.heap.size 9 1 v k ((kn F k).map Value.string)) := Lib.hid (hR ▸ HO.out.alloc _)
      have hc0 := hQ.six.1
      have HB0 := Lib.hid HB1.out.size
      clear hcs hkl hp HB HO hbl
      go_wp2_with (at_builtin; refine wpList_append_own_at _ rfl (.tmp 16) (.tmp 19) 34 rfl w1.heap.size 9 i0 _ 1 16 Try.underlying34 hi0 hz0 hz1 hz2 rfl (by decide) _ _ ((kn F k).map Value.string) rfl (HOR.out.alloc _) ⟨R.heap.size, 0, none⟩ 1 1 [.string pn] rfl rfl (txt_src (Blk.new R 9 _)) (by simp [Value.oneCell']) (by unfold maxLen; omega) (by omega) (by have := HBR.out.size; simp; omega) ?_; intro v4 w4 g1 g2 _ g3; have HO4 := Lib.hid g1; have HB4 := Lib.hid (below_grown (HBR.out.alloc HBR.out.size _) g2 (fun j hj => (World.ownsRow.lt HOR.out j hj).1) (by have := HBR.out.size; simp; omega)); clear g1 g2 g3)
      go_roundw
      case rel => exact ⟨k + 1, _, rfl, by go_num, by omega, HB4, Lib.hid (by rw [HX.out, List.map_append]; exact HO4.out)⟩
      case measure => simp [intOf]; omega
    · obtain rfl : k = N := by omega
      have hown := HO.out
      have hkn : kn F k = F.map (·.nm) := by have := kn_all F; rw [HN.out] at this; exact this
      rw [hkn] at hown
      obtain ⟨A9, c9, rfl, -, -, -⟩ := own_formN hown
      have HCM := Lib.hid (comp_any hown (by rw [List.length_map]; exact HN.out) hle HSZ.out HB.out.size)
      clear hown hkn
      go_wp2_with (go_at_call 30; (with_reducible refine HCM.out.mono ?_); rintro e w5 ⟨rfl, y1, y2, y3, y4⟩; have HY := Lib.hid (show (cmpl (F.map (·.nm))).length ≤ c9 ∧ c9 ≤ maxLen ∧ ZsR w5 A9 (cmpl (F.map (·.nm))) ∧ Below w.heap.size w w5 from ⟨y1, y2, y3, HB1.out.trans ((HB.out.mono (Nat.le_refl _)).mono HB1.out.size |>.trans (y4.mono HB1.out.size))⟩); clear y1 y2 y3 y4)
      go_ret
      exact ⟨_, _, rfl, HY.out.1, HY.out.2.1, HY.out.2.2.1, HY.out.2.2.2⟩
end Go.Proofs.Ythjckkcafhiomaa.Pd
