/- Walk: the law on whole units. -/
import Derived.Test.YtopngdjhnljmfaaDoorRefRnd
import Derived.Test.YtopngdjhnljmfaaDoorAmtAwake
namespace Go.Proofs.YtopngdjhnljmfaaDoor
open Go.RowKit St

/-- An operation whose guard says yes goes as one without. -/
theorem wpList_guard {P : Program} {ops : Array Oper} {Q : Exit → Act → World → Prop} {a : Act} {w : World} {rest : List Oper} {o : Oper} (hw : Region.wanted o (yielded ops a.tmps) = true)
    (h : wpList P ops Q ({ o with guard := none } :: rest) a w) : wpList P ops Q (o :: rest) a w := by
  unfold wpList at h ⊢
  rw [if_pos hw]
  rw [if_pos (show Region.wanted { o with guard := none } (yielded ops a.tmps) = true from rfl)] at h
  cases o
  exact h
theorem ints_row2 {w : World} {a : Option Addr} {len cap : Nat} {zs : List Int} (h : IsRow .i64 w a len cap zs) : Ints w a len (zs.take len) := by
  rcases h with ⟨rfl, rfl, rfl, rfl⟩ | ⟨x, rfl, hl, hm, hz, hc, hw⟩
  · exact ⟨rfl, by simp, fun k hk => absurd hk (by omega)⟩
  · refine ⟨by rw [List.length_take]; omega, fun z hz' => i64_bounds (hw z (List.mem_of_mem_take hz')), fun k hk => ?_⟩
    obtain ⟨b, off, rfl, hb, hc'⟩ := row_cells hc (by omega)
    refine ⟨b, off, rfl, hb, ?_⟩
    have e : (zs.take len)[k]?.getD 0 = zs.getD k 0 := by rw [List.getElem?_take_of_lt hk]; simp [List.getD]
    rw [e]
    exact hc' k (by omega)
theorem ints_own2 {w : World} {base e : Nat} {v : Value} {n : Nat} {zs : List Int} (hz : ∀ z ∈ zs, -9223372036854775808 ≤ z ∧ z ≤ 9223372036854775807) (hl : zs.length = n)
    (h : w.ownsRow base e 1 v n (zs.map (Value.int .i64))) : ∃ A c, v = .slice A n c ∧ Ints w A n zs := by
  obtain ⟨A, c, rfl, _, hc⟩ := own_form h
  refine ⟨A, c, rfl, hl, hz, fun k hk => ?_⟩
  obtain ⟨g, rfl, _, hg, hcell⟩ := hc (by omega)
  refine ⟨g, 0, rfl, hg, ?_⟩
  rw [Nat.zero_add, hcell k hk, List.getElem?_map, List.getElem?_eq_getElem (by omega)]
  rfl
set_option maxHeartbeats 2000000 in
theorem same_ints (A B : Option Addr) (n c c' : Nat) (l : List Int) (w : World) (hA : ∀ k, k < n → ∃ b off, A = some ⟨b, off, none⟩ ∧ w.cell? ⟨b, off + k, none⟩ = some (.int .i64 (l[k]?.getD 0))) (hB : ∀ k, k < n → ∃ b off, B = some ⟨b, off, none⟩ ∧ w.cell? ⟨b, off + k, none⟩ = some (.int .i64 (l[k]?.getD 0))) (hn : n ≤ 100000) :
    Calls Tryd.prog 8 #[.slice A n c, .slice B n c'] w fun e w' => e = .returned (.bool true) ∧ Below w.heap.size w w' := by
  have HA := Lib.hid hA; have HB := Lib.hid hB
  clear hA hB
  go_enter Tryd.func8, Tryd.ntmps8
  go_wp2_with fail
  go_loopw [5] (fun iv wr => ∃ k q : Nat, iv = .int .i64 k ∧ k ≤ n ∧ wr = w.drewN q) (fun iv _ => n - (intOf iv).toNat)
  case atStart => exact ⟨0, 0, rfl, by omega, rfl⟩
  case round =>
    obtain ⟨k, q, rfl, hk, rfl⟩ := hrel
    by_cases hlt : k < n
    · obtain ⟨b, off, rfl, e0⟩ := HA.out k hlt
      obtain ⟨b', off', rfl, e1⟩ := HB.out k hlt
      have hlt' : (k : Int) < (n : Int) := by omega
      generalize l[k]?.getD 0 = x at *
      go_wp2_with fail
      go_quiet (fail)
      go_wp2_with fail
      go_roundw
      case rel => exact ⟨k + 1, _, by go_num, by omega, rfl⟩
      case measure => simp [intOf]; omega
    · obtain rfl : k = n := by omega
      go_wp2_with fail
      go_ret
      exact ⟨rfl, below_drewN (Below.refl _ _) _⟩
set_option maxHeartbeats 1000000 in
theorem round_bad (A : Option Addr) (n c : Nat) (zs : List Int) (w : World) (hA : Ints w A n zs) (hn : n ≤ 4096) (hok : zs.all okA = false) :
    Calls Tryd.prog 14 #[.slice A n c] w fun e w' => e = .returned (.slice none 0 0) ∧ w = w' := by
  have hzl : zs.length = n := hA.1
  have hT := tot_bad (zs := zs) (by omega) hok
  have HT0 := total_any A n c zs w hA (by unfold maxLen; omega)
  rw [hT.1, hT.2] at HT0
  have HT := Lib.hid HT0
  clear HT0 hA hok hT hzl
  go_enter Tryd.func14, Tryd.ntmps14
  go_wp2_with (go_at_call 27; refine HT.out.mono ?_; rintro e w1 ⟨rfl, rfl⟩)
  go_ret
  exact ⟨rfl, rfl⟩
theorem own_cells {w : World} {base e : Nat} {v : Value} {n : Nat} {l : List Int} (hl : l.length = n) (h : w.ownsRow base e 1 v n (l.map (Value.int .i64))) :
    ∃ A c, v = .slice A n c ∧ ∀ k, k < n → ∃ b off, A = some ⟨b, off, none⟩ ∧ b < w.heap.size ∧ w.cell? ⟨b, off + k, none⟩ = some (.int .i64 (l[k]?.getD 0)) := by
  obtain ⟨A, c, rfl, _, hc⟩ := own_form h
  refine ⟨A, c, rfl, fun k hk => ?_⟩
  obtain ⟨g, rfl, _, hg, hcell⟩ := hc (by omega)
  refine ⟨g, 0, rfl, hg, ?_⟩
  rw [Nat.zero_add, hcell k hk, List.getElem?_map, List.getElem?_eq_getElem (by omega)]
  rfl
theorem cells_below {w w' : World} {A : Option Addr} {n : Nat} {l : List Int} (h : ∀ k, k < n → ∃ b off, A = some ⟨b, off, none⟩ ∧ b < w.heap.size ∧ w.cell? ⟨b, off + k, none⟩ = some (.int .i64 (l[k]?.getD 0)))
    (hb : Below w.heap.size w w') : ∀ k, k < n → ∃ b off, A = some ⟨b, off, none⟩ ∧ w'.cell? ⟨b, off + k, none⟩ = some (.int .i64 (l[k]?.getD 0)) := by
  intro k hk
  obtain ⟨b, off, e, hbl, hc⟩ := h k hk
  exact ⟨b, off, e, (hb.cell (p := ⟨b, off + k, none⟩) hbl).trans hc⟩
end Go.Proofs.YtopngdjhnljmfaaDoor
