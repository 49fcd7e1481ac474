/- Walks: the order of positions by their rests. -/
import Derived.Test.YtopngdjhnljmfaaDoorAmtM
import Derived.Test.YtopngdjhnljmfaaDoorShelf
import Derived.Test.YtopngdjhnljmfaaDoorAmtSort
import Derived.Deep.QuietTactic
import Derived.BigQuiet
namespace Go.Proofs.YtopngdjhnljmfaaDoor
open Go.RowKit Go.Sort

theorem cmpInt_any (x y : Int) (w : World) : Calls Tryd.prog 33 #[.int .i64 x, .int .i64 y] w fun e w' => e = .returned (.int .i64 (Lib.compareInt x y)) ∧ w' = w := Tryd.cmp_Compare_int x y w

set_option maxHeartbeats 1000000 in
/-- The closure: the rests at two positions, compared. -/
theorem closure_any (x y : Nat) (gb b off n c : Nat) (u v : Int) (W : World) (hx : x < n) (hy : y < n) (hn : n ≤ 65536) (hbox : W.cell? ⟨gb, 0, none⟩ = some (.slice (some ⟨b, off, none⟩) n c))
    (h1 : W.cell? ⟨b, off + x, none⟩ = some (.int .i64 u)) (h2 : W.cell? ⟨b, off + y, none⟩ = some (.int .i64 v)) :
    Calls Tryd.prog 32 #[.int .i64 (x : Int), .int .i64 (y : Int), .pointer (some ⟨gb, 0, none⟩)] W fun e w' => e = .returned (.int .i64 (Lib.compareInt v u)) ∧ ∃ q, w' = W.drewN q := by
  have hx' : (x : Int) < n := by omega
  have hy' : (y : Int) < n := by omega
  have hc := fun (wx : World) => cmpInt_any v u wx
  generalize Lib.compareInt v u = r at hc ⊢
  have HC := Lib.hid hc; clear hc
  go_enter Tryd.func32, Tryd.ntmps32
  go_wp2
  go_quiet ((go_at_call 33; exact Calls.quiet_of_same (HC.out _)))
  go_wp2
  go_ret
  exact ⟨rfl, _, rfl⟩

/-- A position as a value; the order of positions; the positions in their order, the greatest rest first. -/
def enF (k : Nat) (i : Fin (k + 1)) : Value := .int .i64 (i.val : Int)
def cfF (k : Nat) (zs : List Int) (x y : Fin (k + 1)) : Int := Lib.compareInt (zs[y.val]?.getD 0) (zs[x.val]?.getD 0)
def idF (k : Nat) : Array (Fin (k + 1)) := Array.ofFn id
def posF (k : Nat) (zs : List Int) : Array (Fin (k + 1)) := Sort.insertionSort (ltOf (cfF k zs)) (idF k) 0 (k + 1)
theorem idF_size (k : Nat) : (idF k).size = k + 1 := by simp [idF]

theorem cmpReads (k : Nat) (zs : List Int) (gb b off n c g : Nat) (w : World) (hk : k + 1 ≤ n) (hn : n ≤ 65536) (hg : g < w.heap.size) (hgb : gb ≠ g) (hb : b ≠ g) (hgbl : gb < w.heap.size) (hbl : b < w.heap.size)
    (hbox : w.cell? ⟨gb, 0, none⟩ = some (.slice (some ⟨b, off, none⟩) n c)) (hz : ∀ i, i < k + 1 → w.cell? ⟨b, off + i, none⟩ = some (.int .i64 (zs[i]?.getD 0))) :
    CmpReads Tryd.prog 32 #[.pointer (some ⟨gb, 0, none⟩)] (enF k) (cfF k zs) g 0 (k + 1) w := by
  intro m os dk hdk x y
  have old : ∀ a : Addr, a.block ≠ g → a.block < w.heap.size → (sortWorld (enF k) w g 0 m dk os).cell? a = w.cell? a := by
    intro a h1 h2
    unfold sortWorld
    rw [cell?_grow _ _ _ (by simpa using h2), cell?_putRow_other _ _ _ _ _ _ (.inl h1), cell?_ahead]
  exact closure_any x.val y.val gb b off n c _ _ _ (by omega) (by omega) hn (by rw [old _ hgb hgbl]; exact hbox) (by rw [old _ hb hbl]; exact hz _ x.isLt) (by rw [old _ hb hbl]; exact hz _ y.isLt)

set_option maxHeartbeats 1000000 in
/-- The sort of at most nineteen positions. -/
theorem sort_any (k : Nat) (zs : List Int) (gb b off n c g cap : Nat) (w : World) (hk : k + 1 ≤ n) (hn : n ≤ 65536) (h19 : k + 1 ≤ 19) (hg : g < w.heap.size) (hgb : gb ≠ g) (hb : b ≠ g) (hgbl : gb < w.heap.size) (hbl : b < w.heap.size)
    (hbox : w.cell? ⟨gb, 0, none⟩ = some (.slice (some ⟨b, off, none⟩) n c)) (hz : ∀ i, i < k + 1 → w.cell? ⟨b, off + i, none⟩ = some (.int .i64 (zs[i]?.getD 0)))
    (hH : Holds (enF k) w g 0 (idF k)) :
    Calls Tryd.prog 31 #[.slice (some ⟨g, 0, none⟩) (k + 1) cap, .func (.func 32) #[] #[.pointer (some ⟨gb, 0, none⟩)]] w fun e w' =>
      e = .returned (.tuple #[]) ∧ ∃ q, w' = (putRow (enF k) w g 0 (posF k zs)).drewN q := by
  have eg : ∀ args w, (callFunc 32 args).run Tryd.prog w = .ok (.enter 32 args) w := enters_of Tryd.func32 (by kernel_rfl) rfl
  have hs := idF_size k
  have hcon := Any.insertionSortCmpFunc_one Tryd.laysIns (enF k) (fun _ => rfl) (cfF k zs) 32 #[.pointer (some ⟨gb, 0, none⟩)] g 0 cap 0 (k + 1) (idF k) w eg
    (by rw [hs]; exact cmpReads k zs gb b off n c g w hk hn hg hgb hb hgbl hbl hbox hz) hH (by omega) (by omega) (by omega)
  rw [hs] at hcon
  change Calls Tryd.prog 42 _ _ _ at hcon
  have hpos : Sort.insertionSort (ltOf (cfF k zs)) (idF k) 0 (k + 1) = posF k zs := rfl
  rw [hpos] at hcon
  generalize posF k zs = r at hcon ⊢
  have e1 : ((k + 1 : Nat) : Int) = (k : Int) + 1 := by omega
  rw [e1] at hcon
  have HC := Lib.hid hcon
  clear hcon hH hbox hz hs hpos eg e1
  have h57 : Calls Tryd.prog 38 #[.slice (some ⟨g, 0, none⟩) (k + 1) cap, .int .i64 ((k : Int) + 1), .func (.func 32) #[] #[.pointer (some ⟨gb, 0, none⟩)]] w fun e w' =>
      e = .returned (.tuple #[]) ∧ ∃ q, w' = (putRow (enF k) w g 0 r).drewN q := by
    have h20 : ¬ (20 : Int) ≤ (k : Int) + 1 := by omega
    have h21 : ¬ (20 : Int) < (k : Int) + 1 := by omega
    go_enter Tryd.func38, Tryd.ntmps38
    go_wp2
    refine wp_loop_rounds 1 ?_
    rw [rounds_succ]
    go_wp2_with (go_at_call 42; refine HC.out.mono ?_; rintro e w' ⟨rfl, q, rfl⟩)
    refine wp_loop_rounds 1 ?_
    rw [rounds_succ]
    go_wp2
    go_end0
    exact ⟨rfl, _, rfl⟩
  have H57 := Lib.hid h57; clear h57
  go_enter Tryd.func31, Tryd.ntmps31
  go_wp2_with (go_at_call 38; refine H57.out.mono ?_; rintro e w' ⟨rfl, q, rfl⟩)
  go_end0
  exact ⟨rfl, _, rfl⟩
end Go.Proofs.YtopngdjhnljmfaaDoor
