/- Walk of the program: the sorted edges of two lists. -/
import Derived.Test.YtigohhliblgdhaaIvSrt
import Derived.Test.YtigohhliblgdhaaIvLim
import Derived.Shelf.SlSortCmp.NoneTotal
namespace Go.Proofs.Ytigohhliblgdhaa
open Go.RowKit

theorem edgeInfo : (Try.prog.info? 54).map (fun i => (i.zero, i.size, i.bytes)) = some (some (.agg #[.int .i64 0, .int .i64 0, .int .i64 0]), 3, 24) := by kernel_rfl
/-- The edges of two lists, in the order of the text. -/
def egs2 (la lb : List Pd) : Nat → List Eg
  | 0 => []
  | 1 => egs 0 la
  | _ => egs 0 la ++ egs 1 lb
theorem egs_take_step {j : Int} {l : List Pd} {k : Nat} {u z : Int} (h : k < l.length) (hp : l.getD k (0, 0) = (u, z)) (v : Bool) (hv : vl (u, z) = v) :
    egs j (l.take (k + 1)) = egs j (l.take k) ++ if v then [(u, j, 1), (z, j, -1)] else [] := by
  rw [take_step h, hp, egs_snoc, hv]
theorem cell_six_new (w : World) (a b c d e f : Int) (t : TypeId) : ∀ j u, [Value.int .i64 a, .int .i64 b, .int .i64 c, .int .i64 d, .int .i64 e, .int .i64 f][j]? = some u → (w.alloc (.cells #[.int .i64 a, .int .i64 b, .int .i64 c, .int .i64 d, .int .i64 e, .int .i64 f] t)).cell? ((⟨w.heap.size, 0, none⟩ : Addr).add j) = some u := by
  intro j u hu
  have ha : ((⟨w.heap.size, 0, none⟩ : Addr).add j) = ⟨w.heap.size, j, none⟩ := by unfold Addr.add; split <;> simp_all
  rw [ha, cell_of_row _ _ _ _ _ (0, 0) (heap_alloc_new _ _)]
  simpa using hu
def EgOut (E0 : List Eg) (w : World) (e : Ending) (w' : World) : Prop :=
  ∃ (E : List Eg) (A : Option Addr) (c : Nat), e = .returned (.slice A E.length c) ∧ E.length ≤ c ∧ ER w' A E ∧ E.Perm E0 ∧ srt E ∧ Below w.heap.size w w'
set_option maxRecDepth 100000 in
set_option maxHeartbeats 8000000 in
theorem sorted_any (G : Nat) (A B : Option Addr) (m n c c' : Nat) (la lb : List Pd) (w : World) (hG : G < w.heap.size) (h0 : w.cell? ⟨G, 0, none⟩ = some (.slice A m c)) (h1 : w.cell? ⟨G, 1, none⟩ = some (.slice B n c'))
    (hA : PR w A la) (hB : PR w B lb) (hm : la.length = m) (hn : lb.length = n) (hmc : m ≤ c) (hnc : n ≤ c') (h5 : m + n ≤ 1000) :
    Calls Try.prog 40 #[.slice (some ⟨G, 0, none⟩) 2 2] w (EgOut (egs 0 la ++ egs 1 lb) w) := by
  obtain ⟨i0, hi0, hz0, hz1, hz2⟩ := info_parts edgeInfo
  have hK : ∀ k, k < 2 → ∃ (A1 : Option Addr) (n1 c1 : Nat) (l1 : List Pd), w.cell? ⟨G, k, none⟩ = some (.slice A1 n1 c1) ∧ PR w A1 l1 ∧ l1.length = n1 ∧ n1 ≤ c1 ∧ n1 ≤ 1000 ∧ egs2 la lb (k + 1) = egs2 la lb k ++ egs (k : Int) l1 := by
    intro k hk
    match k, hk with
    | 0, _ => exact ⟨A, m, c, la, h0, hA, hm, hmc, by omega, rfl⟩
    | 1, _ => exact ⟨B, n, c', lb, h1, hB, hn, hnc, by omega, rfl⟩
  have HK := Lib.hid hK
  have HE2 : Hid (egs2 la lb 2 = egs 0 la ++ egs 1 lb) := Lib.hid rfl
  have hlen : ∀ k, (egs2 la lb k).length ≤ 2000 := by
    intro k
    have a1 := egs_length 0 la
    have a2 := egs_length 1 lb
    match k with
    | 0 => simp [egs2]
    | 1 => simp [egs2]; omega
    | k + 2 => simp [egs2]; omega
  have HLN := Lib.hid hlen
  have H0 : Hid (egs2 la lb 0 = []) := Lib.hid rfl
  generalize egs2 la lb = F at *
  clear hK h0 h1 hA hB hm hn hmc hnc h5 hlen
  go_enter Try.func40, Try.ntmps40
  go_wp2
  go_loopw [3, 10] (fun v i wr => ∃ (k : Nat) (q : Nat), k ≤ 2 ∧ i = .int .i64 k ∧ Hid ((F k).length = q) ∧ wr.ownsRow w.heap.size 54 3 v q (el (F k)) ∧ Below w.heap.size w wr) (fun _ i _ => 2 - (intOf i).toNat)
  case atStart => exact ⟨0, 0, by omega, rfl, Lib.hid (by rw [H0.out]; rfl), by rw [H0.out]; exact World.ownsRow_nil _ _ _ _, Below.refl _ _⟩
  case round =>
    obtain ⟨k, q, hk, rfl, HQ, hown, hb⟩ := hrel
    have hs := hb.size
    by_cases hlt : k < 2
    · obtain ⟨A1, n1, c1, l1, hc, hP, hl1, hn1, hn2, hF⟩ := HK.out k hlt
      have hlt' : (k : Int) < 2 := by omega
      have h0' : (0 : Int) ≤ (k : Int) := by omega
      have hcr := (hb.cell (p := ⟨G, k, none⟩) hG).trans hc
      have HP := Lib.hid hP
      have HN := Lib.hid hl1
      have HF := Lib.hid hF
      have hqb : q ≤ 2000 := by have := HLN.out k; rw [HQ.out] at this; exact this
      clear hc hP hl1 hF
      go_wp2
      go_loopw [3, 17] (fun v i wx => ∃ (j : Nat) (q1 : Nat), j ≤ n1 ∧ i = .int .i64 j ∧ Hid ((F k ++ egs (k : Int) (l1.take j)).length = q1) ∧ q1 ≤ q + 2 * j ∧ wx.ownsRow w.heap.size 54 3 v q1 (el (F k ++ egs (k : Int) (l1.take j))) ∧ Below w.heap.size w wx) (fun _ i _ => n1 - (intOf i).toNat)
      case atStart => exact ⟨0, q, by omega, rfl, Lib.hid (by rw [List.take_zero, egs_nil, List.append_nil]; exact HQ.out), by omega, by rw [List.take_zero, egs_nil, List.append_nil]; exact hown, hb⟩
      case round =>
        clear hown hb hs hcr
        obtain ⟨j, q1, hj, rfl, HQ1, hq1, hown, hb⟩ := hrel
        have hs := hb.size
        by_cases hjn : j < n1
        · obtain ⟨bk, off, rfl, hbl, d0, d1⟩ := HP.out j (by rw [HN.out]; exact hjn)
          have e0 := (hb.cell (p := ⟨bk, off + j * 2, none⟩) hbl).trans d0
          have e1 := (hb.cell (p := ⟨bk, off + j * 2 + 1, none⟩) hbl).trans d1
          have hbl2 : bk < wr.heap.size := Nat.lt_of_lt_of_le hbl hs
          have hjt' : (j : Int) < (n1 : Int) := by omega
          have hj0' : (0 : Int) ≤ (j : Int) := by omega
          obtain ⟨p, hp⟩ : ∃ p, l1.getD j (0, 0) = p := ⟨_, rfl⟩
          obtain ⟨u, z⟩ := p
          have HS := Lib.hid (egs_take_step (j := (k : Int)) (show j < l1.length by rw [HN.out]; exact hjn) hp)
          rw [hp] at e0 e1
          simp only at e0 e1
          clear hp d0 d1
          cases hv : vl (u, z)
          · have HV := Lib.hid (fun w => valid_is u z _ hv w)
            have HS2 := Lib.hid (HS.out _ hv)
            clear hv HS
            go_wp2_with (first | (go_at_call 11; (with_reducible refine (HV.out _).mono ?_); rintro e w1 ⟨rfl, hb1⟩; have hb2 : Below w.heap.size w w1 := (hb.alloc hs _).trans (hb1.mono (by simp; omega)); have hown1 := own_below (World.ownsRow.alloc hown _) hb1; have hs1 := hb2.size; obtain ⟨g0, g1⟩ := ((Blk.new wr 23 #[.int .i64 u, .int .i64 z]).below hb1 (by simp)).two; clear hb1))
            go_roundw
            case rel => exact ⟨j + 1, q1, by omega, by go_num, Lib.hid (by rw [HS2.out]; simpa using HQ1.out), by omega, by rw [HS2.out]; simpa using hown1, hb2⟩
            case measure => simp [intOf]; omega
          · have HV := Lib.hid (fun w => valid_is u z _ hv w)
            have HS2 := Lib.hid (HS.out _ hv)
            clear hv HS
            go_wp2_with (first | (go_at_call 11; (with_reducible refine (HV.out _).mono ?_); rintro e w1 ⟨rfl, hb1⟩; have hb2 : Below w.heap.size w w1 := (hb.alloc hs _).trans (hb1.mono (by simp; omega)); have hown1 := own_below (World.ownsRow.alloc hown _) hb1; have hs1 := hb2.size; obtain ⟨g0, g1⟩ := ((Blk.new wr 23 #[.int .i64 u, .int .i64 z]).below hb1 (by simp)).two; clear hb1) | (at_builtin; refine wpList_append_own _ rfl (.tmp 23) (.tmp 32) 50 rfl w.heap.size 54 i0 (.agg #[.int .i64 0, .int .i64 0, .int .i64 0]) 3 24 Try.underlying50 hi0 hz0 hz1 hz2 rfl (by decide) _ _ _ rfl (World.ownsRow.alloc hown1 _) ⟨w1.heap.size, 0, none⟩ 2 2 [.int .i64 u, .int .i64 (k : Int), .int .i64 1, .int .i64 z, .int .i64 (k : Int), .int .i64 (-1)] rfl rfl (cell_six_new _ _ _ _ _ _ _ _) (by intro u hu; simp at hu; rcases hu with rfl | rfl | rfl | rfl | rfl | rfl <;> rfl) (by unfold maxLen; omega) (by omega) (by simp; omega) ?_; intro v4 w4 hown4 hg4 _; have hb4 : Below w.heap.size w w4 := (hb2.alloc hs1 _).grown hg4 (by simp; omega) (fun g hg' => by have := (World.ownsRow.lt hown1 g hg').1; omega)))
            go_roundw
            case rel => exact ⟨j + 1, q1 + 2, by omega, by go_num, Lib.hid (by rw [HS2.out, ← List.append_assoc, List.length_append, HQ1.out]; rfl), by omega, by rw [HS2.out, ← List.append_assoc, el_append]; exact hown4, hb4⟩
            case measure => simp [intOf]; omega
        · obtain rfl : j = n1 := by omega
          have HF2 : Hid (F (k + 1) = F k ++ egs (k : Int) (l1.take j)) := Lib.hid (by rw [HF.out, ← HN.out, List.take_length])
          go_wp2
          go_roundw
          case rel => exact ⟨k + 1, q1, by omega, by go_num, Lib.hid (by rw [HF2.out]; exact HQ1.out), by rw [HF2.out]; exact hown, hb⟩
          case measure => simp [intOf]; omega
    · obtain rfl : k = 2 := by omega
      have HQ2 : Hid ((egs 0 la ++ egs 1 lb).length = q) := Lib.hid (by rw [← HE2.out]; exact HQ.out)
      rw [HE2.out] at hown
      obtain ⟨E0, hE0⟩ : ∃ E0, egs 0 la ++ egs 1 lb = E0 := ⟨_, rfl⟩
      have HE0 := Lib.hid hE0
      rw [hE0] at hown HQ2
      clear hE0
      obtain ⟨A1, c1, rfl, hc1, hm1, hpos⟩ := own_any hown
      have hq : q ≤ 2000 := by have := HLN.out 2; rw [HQ.out] at this; exact this
      rcases Nat.eq_zero_or_pos q with rfl | hq0
      · have HS0 := fun W => AnyF.slices_SortFunc_none { Try.sortEdge with } A1 c1 (.func (.func 55) #[] #[]) W
        change ∀ W, Calls Try.prog 54 _ _ _ at HS0
        have HS := Lib.hid HS0
        clear HS0
        clear hpos
        go_wp2_with (go_at_call 54; (with_reducible refine (HS.out _).mono ?_); rintro e w1 ⟨rfl, hw⟩; subst hw)
        go_ret
        have hnil : E0 = [] := List.length_eq_zero_iff.1 HQ2.out
        rw [HE0.out, hnil]
        exact ⟨[], A1, c1, by simp, by omega, fun k hk => absurd hk (Nat.not_lt_zero k), .nil, List.Pairwise.nil, hb⟩
      · obtain ⟨g, rfl, hg1, hg2⟩ := hpos hq0
        have HS := Lib.hid (sortE hown HQ2.out (by omega))
        clear hpos
        go_wp2_with (go_at_call 54; (with_reducible refine HS.out.mono ?_); rintro e w1 ⟨rfl, E, hp, hsr, her, hb1⟩; have HP := Lib.hid hp; have HSR := Lib.hid hsr; have HER := Lib.hid her; clear hp hsr her)
        go_ret
        have hlE : E.length = q := by rw [HP.out.length_eq]; exact HQ2.out
        exact ⟨E, _, c1, by simp [hlE], by omega, HER.out, by rw [HE0.out]; exact HP.out, HSR.out, hb.trans hb1⟩
end Go.Proofs.Ytigohhliblgdhaa
