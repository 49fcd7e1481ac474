/- Walks: what is valid of a batch. -/
import Derived.Test.YtobkafkknbdacaaDoorBaRT
import Derived.Test.YtobkafkknbdacaaDoorRcChk
import Derived.Test.YtobkafkknbdacaaDoorRcErr
namespace Go.Proofs.YtobkafkknbdacaaDoor.Va
open Go.RowKit

/-- The error of a header. -/
def hdE (s n f c : Int) : Int := if s < 1 ∨ 99 < s ∨ n < 1 ∨ 999999999 < n then 6 else if f < 1 ∨ 4 ≤ f then 7 else if c < 0 ∨ 4096 < c then 5 else 0
/-- The error of records of a source. -/
def rcE (s : Int) : List Rc → Int
  | [] => 0
  | r :: l => if chkR r ≠ 0 then chkR r else if r.s0 ≠ s then 8 else rcE s l
theorem put4 {w : World} {g : Nat} {t : TypeId} {a b c d : Value} (h : Blk w g t #[a, b, c, d]) (v0 v1 v2 v3 : Value) : Blk ((((w.setCell ⟨g, 0, none⟩ v0).setCell ⟨g, 1, none⟩ v1).setCell ⟨g, 2, none⟩ v2).setCell ⟨g, 3, none⟩ v3) g t #[v0, v1, v2, v3] := by
  unfold Blk at *
  simp [World.setCell, Array.getElem?_modify, h]
theorem keep4 {B g : Nat} {a w : World} (h : Below B a w) (hg : B ≤ g) (v0 v1 v2 v3 : Value) : Below B a ((((w.setCell ⟨g, 0, none⟩ v0).setCell ⟨g, 1, none⟩ v1).setCell ⟨g, 2, none⟩ v2).setCell ⟨g, 3, none⟩ v3) := by
  repeat' apply Below.setCell
  all_goals first | exact h | exact hg
theorem blk_drop {w w' : World} {g B : Nat} {t : TypeId} {cs : Array Value} (h : Blk w g t cs) (hb : Below B w w') (hg : g < B) : Blk w' g t cs := h.below hb hg
set_option maxRecDepth 100000 in
set_option maxHeartbeats 8000000 in
theorem chkHead_any (s n f c : Int) (w : World) : Calls Tryd.prog 13 #[.agg #[.int .i64 s, .int .i64 n, .int .i64 f, .int .i64 c]] w fun e w' => e = .returned (.int .i64 (hdE s n f c)) ∧ Below w.heap.size w w' := by
  obtain ⟨L, hL⟩ : ∃ L, w.alloc (.cells #[.int .i64 s, .int .i64 n, .int .i64 f, .int .i64 c] 41) = L := ⟨_, rfl⟩
  have hbl : Blk L w.heap.size 41 #[.int .i64 s, .int .i64 n, .int .i64 f, .int .i64 c] := hL ▸ Blk.new w _ _
  have e0 := hbl.cell 0; have e1 := hbl.cell 1; have e2 := hbl.cell 2; have e3 := hbl.cell 3
  simp at e0 e1 e2 e3
  have HB : Hid (Below w.heap.size w L) := Lib.hid (hL ▸ below_lit w _)
  obtain ⟨X, hX⟩ : ∃ X, hdE s n f c = X := ⟨_, rfl⟩
  rw [hX]
  unfold hdE at hX
  clear hbl
  by_cases c1 : s < 1
  · rw [if_pos (by omega)] at hX; subst hX
    go_enter Tryd.func13, Tryd.ntmps13
    go_wp2
    go_ret
    exact ⟨rfl, HB.out⟩
  by_cases c2 : 99 < s
  · rw [if_pos (by omega)] at hX; subst hX
    go_enter Tryd.func13, Tryd.ntmps13
    go_wp2
    go_ret
    exact ⟨rfl, HB.out⟩
  by_cases c3 : n < 1
  · rw [if_pos (by omega)] at hX; subst hX
    go_enter Tryd.func13, Tryd.ntmps13
    go_wp2
    go_ret
    exact ⟨rfl, HB.out⟩
  by_cases c4 : 999999999 < n
  · rw [if_pos (by omega)] at hX; subst hX
    go_enter Tryd.func13, Tryd.ntmps13
    go_wp2
    go_ret
    exact ⟨rfl, HB.out⟩
  rw [if_neg (by omega)] at hX
  by_cases c5 : f < 1
  · rw [if_pos (by omega)] at hX; subst hX
    go_enter Tryd.func13, Tryd.ntmps13
    go_wp2
    go_ret
    exact ⟨rfl, HB.out⟩
  by_cases c6 : 4 ≤ f
  · rw [if_pos (by omega)] at hX; subst hX
    go_enter Tryd.func13, Tryd.ntmps13
    go_wp2
    go_ret
    exact ⟨rfl, HB.out⟩
  rw [if_neg (by omega)] at hX
  by_cases c7 : c < 0
  · rw [if_pos (by omega)] at hX; subst hX
    go_enter Tryd.func13, Tryd.ntmps13
    go_wp2
    go_ret
    exact ⟨rfl, HB.out⟩
  by_cases c8 : 4096 < c
  · rw [if_pos (by omega)] at hX; subst hX
    go_enter Tryd.func13, Tryd.ntmps13
    go_wp2
    go_ret
    exact ⟨rfl, HB.out⟩
  rw [if_neg (by omega)] at hX; subst hX
  go_enter Tryd.func13, Tryd.ntmps13
  go_wp2
  go_ret
  exact ⟨rfl, HB.out⟩
set_option maxRecDepth 100000 in
set_option maxHeartbeats 8000000 in
theorem head_any (s n f : Int) (A : Option Addr) (m c : Nat) (w : World) : Calls Tryd.prog 14 #[.agg #[.int .i64 s, .int .i64 n, .int .i64 f, .slice A m c]] w fun e w' => e = .returned (.agg #[.int .i64 s, .int .i64 n, .int .i64 f, .int .i64 (m : Int)]) ∧ Below w.heap.size w w' := by
  obtain ⟨L, hL⟩ : ∃ L, w.alloc (.cells #[.int .i64 s, .int .i64 n, .int .i64 f, .slice A m c] 31) = L := ⟨_, rfl⟩
  have hbl : Blk L w.heap.size 31 #[.int .i64 s, .int .i64 n, .int .i64 f, .slice A m c] := hL ▸ Blk.new w _ _
  have hs : L.heap.size = w.heap.size + 1 := by rw [← hL]; simp
  obtain ⟨L2, hL2⟩ : ∃ L2, L.alloc (.cells #[.int .i64 0, .int .i64 0, .int .i64 0, .int .i64 0] 41) = L2 := ⟨_, rfl⟩
  have hb2 : Blk L2 L.heap.size 41 #[.int .i64 0, .int .i64 0, .int .i64 0, .int .i64 0] := hL2 ▸ Blk.new L _ _
  have hb1 : Blk L2 w.heap.size 31 #[.int .i64 s, .int .i64 n, .int .i64 f, .slice A m c] := hL2 ▸ hbl.alloc _
  have HB : Hid (Below w.heap.size w L2) := Lib.hid (hL2 ▸ (hL ▸ below_lit w _ : Below w.heap.size w L).alloc (by rw [hs]; omega) _)
  have e0 := hb1.cell 0; have e1 := hb1.cell 1; have e2 := hb1.cell 2; have e3 := hb1.cell 3
  have r0 := hb2.cell 0; have r1 := hb2.cell 1; have r2 := hb2.cell 2; have r3 := hb2.cell 3
  have hfr := hb2.frozen
  simp at e0 e1 e2 e3 r0 r1 r2 r3
  have HB2 := Lib.hid hb2
  have HS := Lib.hid hs
  clear hbl hb1 hb2 hs
  go_enter Tryd.func14, Tryd.ntmps14
  go_wp2
  refine bodyPost_ret (v := .agg #[.int .i64 s, .int .i64 n, .int .i64 f, .int .i64 (m : Int)]) ?_ rfl ⟨rfl, ?_⟩
  · exact results_cell1 (p := 2) rfl _ _ L.heap.size 41 #[.int .i64 s, .int .i64 n, .int .i64 f, .int .i64 (m : Int)] (0, 0) _ rfl (put4 HB2.out _ _ _ _) Tryd.underlying41 rfl rfl
  · exact keep4 HB.out (by rw [HS.out]; omega) _ _ _ _
end Go.Proofs.YtobkafkknbdacaaDoor.Va
