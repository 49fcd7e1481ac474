/- Walk of the reference: a number is inserted into an ascending list. -/
import Derived.Test.YtigohhliblgdhaaIvO
import Derived.Test.YtigohhliblgdhaaIvRefM
namespace Go.Proofs.Ytigohhliblgdhaa
open Go.RowKit

theorem drop_step {l : List Int} {k : Nat} (h : k < l.length) : l.drop k = l.getD k 0 :: l.drop (k + 1) := by
  rw [List.drop_eq_getElem_cons h]; simp [List.getD, List.getElem?_eq_getElem h]
theorem adGo_ins {n y : Int} {l : List Int} (h : n ≤ y) : adGo n false (y :: l) = [n] ++ ((if y = n then [] else [y]) ++ adGo n true l) := by
  show (if !false && decide (n ≤ y) then [n] else []) ++ (if y = n then [] else [y]) ++ adGo n (false || decide (n ≤ y)) l = _
  rw [decide_eq_true h]; simp
theorem adGo_low {n y : Int} {l : List Int} (h : ¬ n ≤ y) : adGo n false (y :: l) = [y] ++ adGo n false l := by
  show (if !false && decide (n ≤ y) then [n] else []) ++ (if y = n then [] else [y]) ++ adGo n (false || decide (n ≤ y)) l = _
  rw [decide_eq_false h, if_neg (show ¬ y = n by omega)]; simp
theorem adGo_on {n y : Int} {l : List Int} : adGo n true (y :: l) = (if y = n then [] else [y]) ++ adGo n true l := by
  show (if !true && decide (n ≤ y) then [n] else []) ++ (if y = n then [] else [y]) ++ adGo n (true || decide (n ≤ y)) l = _
  simp

set_option maxHeartbeats 4000000 in
theorem add_any (A : Option Addr) (n c : Nat) (l : List Int) (x : Int) (w : World) (hA : IR w A l) (hn : l.length = n) (h5 : n ≤ 10000) (hc : n ≤ c) :
    Calls Try.prog 32 #[.slice A n c, .int .i64 x] w (InOut (adL l x) w) := by
  obtain ⟨i0, hi0, hz0, hz1, hz2⟩ := info_parts intInfo
  have HA := Lib.hid hA
  have HN := Lib.hid hn
  clear hA hn
  go_enter Try.func32, Try.ntmps32
  go_wp2
  go_loopw [5, 6, 7] (fun v d i wr => ∃ (k : Nat) (b : Bool) (o : List Int), k ≤ n ∧ d = .bool b ∧ i = .int .i64 k ∧ o.length ≤ k + b.toNat ∧ wr.ownsRow w.heap.size 3 1 v o.length (il o) ∧ Below w.heap.size w wr ∧ Hid (adL l x = o ++ adGo x b (l.drop k))) (fun _ _ i _ => n - (intOf i).toNat)
  case atStart => exact ⟨0, false, [], by omega, rfl, rfl, by simp, World.ownsRow_nil _ _ _ _, Below.refl _ _, Lib.hid (by simp [adL])⟩
  case round =>
    obtain ⟨k, b, o, hk, rfl, rfl, ho, hown, hb, HE⟩ := hrel
    have hs := hb.size
    by_cases hlt : k < n
    · obtain ⟨bk, off, rfl, hbl, d0⟩ := HA.out k (by rw [HN.out]; exact hlt)
      have e0 := (hb.cell (p := ⟨bk, off + k, none⟩) hbl).trans d0
      have HD := Lib.hid (drop_step (show k < l.length by rw [HN.out]; exact hlt))
      have hlt' : (k : Int) < (n : Int) := by omega
      have h0' : (0 : Int) ≤ (k : Int) := by omega
      obtain ⟨y, hy⟩ : ∃ y, l.getD k 0 = y := ⟨_, rfl⟩
      rw [hy] at e0 d0 HD
      clear hy
      have HE2 : Hid (adL l x = o ++ adGo x b (y :: l.drop (k + 1))) := Lib.hid (by rw [← HD.out]; exact HE.out)
      clear HE HD
      cases b
      · replace ho : o.length ≤ k := ho
        by_cases hxy : x ≤ y
        · have d1 : decide (x ≤ y) = true := decide_eq_true hxy
          by_cases hyx : y = x
          · have hq : (y != x) = false := by simp [hyx]
            have HE : Hid (adL l x = (o ++ [x]) ++ adGo x true (l.drop (k + 1))) := Lib.hid (by rw [HE2.out, adGo_ins hxy, if_pos hyx]; simp)
            clear HE2 hxy hyx
            go_wp2_with (first | (at_builtin; refine wpList_append_own _ rfl (.tmp 24) (.tmp 26) 30 rfl w.heap.size 3 i0 (.int .i64 0) 1 8 Try.underlying30 hi0 hz0 hz1 hz2 rfl (by decide) _ _ _ rfl (World.ownsRow.alloc hown _) ⟨wr.heap.size, 0, none⟩ 1 1 [.int .i64 x] rfl rfl (cell_one_new' _ _ _) (by intro u hu; simp at hu; subst hu; rfl) (by unfold maxLen; omega) (by omega) (by simp; omega) ?_; intro v4 w4 hown4 hg4 _; have hb4 : Below w.heap.size w w4 := (hb.alloc hs _).grown hg4 (by simp; omega) (fun g hg' => by have := (World.ownsRow.lt hown g hg').1; omega); have hs4 := hb4.size; have e4 := (hb4.cell (p := ⟨bk, off + k, none⟩) hbl).trans d0))
            go_roundw
            case rel => exact ⟨k + 1, true, o ++ [x], by omega, rfl, by go_num, by simp; omega, by simpa [il_append, il] using hown4, hb4, HE⟩
            case measure => simp [intOf]; omega
          · have hq : (y != x) = true := by simp [hyx]
            have HE : Hid (adL l x = (o ++ [x] ++ [y]) ++ adGo x true (l.drop (k + 1))) := Lib.hid (by rw [HE2.out, adGo_ins hxy, if_neg hyx]; simp)
            clear HE2 hxy hyx
            go_wp2_with (first | (at_builtin; refine wpList_append_own _ rfl (.tmp 24) (.tmp 26) 30 rfl w.heap.size 3 i0 (.int .i64 0) 1 8 Try.underlying30 hi0 hz0 hz1 hz2 rfl (by decide) _ _ _ rfl (World.ownsRow.alloc hown _) ⟨wr.heap.size, 0, none⟩ 1 1 [.int .i64 x] rfl rfl (cell_one_new' _ _ _) (by intro u hu; simp at hu; subst hu; rfl) (by unfold maxLen; omega) (by omega) (by simp; omega) ?_; intro v4 w4 hown4 hg4 _; have hb4 : Below w.heap.size w w4 := (hb.alloc hs _).grown hg4 (by simp; omega) (fun g hg' => by have := (World.ownsRow.lt hown g hg').1; omega); have hs4 := hb4.size; have e4 := (hb4.cell (p := ⟨bk, off + k, none⟩) hbl).trans d0) | (at_builtin; refine wpList_append_own _ rfl (.tmp 34) (.tmp 39) 30 rfl w.heap.size 3 i0 (.int .i64 0) 1 8 Try.underlying30 hi0 hz0 hz1 hz2 rfl (by decide) _ _ _ rfl (World.ownsRow.alloc hown4 _) ⟨w4.heap.size, 0, none⟩ 1 1 [.int .i64 y] rfl rfl (cell_one_new' _ _ _) (by intro u hu; simp at hu; subst hu; rfl) (by unfold maxLen; omega) (by omega) (by simp; omega) ?_; intro v5 w5 hown5 hg5 _; have hb5 : Below w.heap.size w w5 := (hb4.alloc hs4 _).grown hg5 (by simp; omega) (fun g hg' => by have := (World.ownsRow.lt hown4 g hg').1; omega)))
            go_roundw
            case rel => exact ⟨k + 1, true, o ++ [x] ++ [y], by omega, rfl, by go_num, by simp; omega, by simpa [il_append, il] using hown5, hb5, HE⟩
            case measure => simp [intOf]; omega
        · have d1 : decide (x ≤ y) = false := decide_eq_false hxy
          have hq : (y != x) = true := by simp; omega
          have HE : Hid (adL l x = (o ++ [y]) ++ adGo x false (l.drop (k + 1))) := Lib.hid (by rw [HE2.out, adGo_low hxy]; simp)
          clear HE2 hxy
          go_wp2_with (first | (at_builtin; refine wpList_append_own _ rfl (.tmp 34) (.tmp 39) 30 rfl w.heap.size 3 i0 (.int .i64 0) 1 8 Try.underlying30 hi0 hz0 hz1 hz2 rfl (by decide) _ _ _ rfl (World.ownsRow.alloc hown _) ⟨wr.heap.size, 0, none⟩ 1 1 [.int .i64 y] rfl rfl (cell_one_new' _ _ _) (by intro u hu; simp at hu; subst hu; rfl) (by unfold maxLen; omega) (by omega) (by simp; omega) ?_; intro v5 w5 hown5 hg5 _; have hb5 : Below w.heap.size w w5 := (hb.alloc hs _).grown hg5 (by simp; omega) (fun g hg' => by have := (World.ownsRow.lt hown g hg').1; omega)))
          go_roundw
          case rel => exact ⟨k + 1, false, o ++ [y], by omega, rfl, by go_num, by simp; omega, by simpa [il_append, il] using hown5, hb5, HE⟩
          case measure => simp [intOf]; omega
      · replace ho : o.length ≤ k + 1 := ho
        by_cases hyx : y = x
        · have hq : (y != x) = false := by simp [hyx]
          have HE : Hid (adL l x = o ++ adGo x true (l.drop (k + 1))) := Lib.hid (by rw [HE2.out, adGo_on, if_pos hyx]; simp)
          clear HE2 hyx
          go_wp2_with fail
          go_roundw
          case rel => exact ⟨k + 1, true, o, by omega, rfl, by go_num, by omega, hown, hb, HE⟩
          case measure => simp [intOf]; omega
        · have hq : (y != x) = true := by simp [hyx]
          have HE : Hid (adL l x = (o ++ [y]) ++ adGo x true (l.drop (k + 1))) := Lib.hid (by rw [HE2.out, adGo_on, if_neg hyx]; simp)
          clear HE2 hyx
          go_wp2_with (first | (at_builtin; refine wpList_append_own _ rfl (.tmp 34) (.tmp 39) 30 rfl w.heap.size 3 i0 (.int .i64 0) 1 8 Try.underlying30 hi0 hz0 hz1 hz2 rfl (by decide) _ _ _ rfl (World.ownsRow.alloc hown _) ⟨wr.heap.size, 0, none⟩ 1 1 [.int .i64 y] rfl rfl (cell_one_new' _ _ _) (by intro u hu; simp at hu; subst hu; rfl) (by unfold maxLen; omega) (by omega) (by simp; omega) ?_; intro v5 w5 hown5 hg5 _; have hb5 : Below w.heap.size w w5 := (hb.alloc hs _).grown hg5 (by simp; omega) (fun g hg' => by have := (World.ownsRow.lt hown g hg').1; omega)))
          go_roundw
          case rel => exact ⟨k + 1, true, o ++ [y], by omega, rfl, by go_num, by simp; omega, by simpa [il_append, il] using hown5, hb5, HE⟩
          case measure => simp [intOf]; omega
    · obtain rfl : k = n := by omega
      have HE2 : Hid (adL l x = o ++ if b then [] else [x]) := Lib.hid (by have := HE.out; rw [List.drop_eq_nil_of_le (by rw [HN.out]; exact Nat.le_refl _)] at this; exact this)
      clear HE
      have ho2 : o.length ≤ k + 1 := by cases b <;> simp at ho <;> omega
      clear ho
      cases b
      · go_wp2_with (at_builtin; refine wpList_append_own _ rfl (.tmp 43) (.tmp 45) 30 rfl w.heap.size 3 i0 (.int .i64 0) 1 8 Try.underlying30 hi0 hz0 hz1 hz2 rfl (by decide) _ _ _ rfl (World.ownsRow.alloc hown _) ⟨wr.heap.size, 0, none⟩ 1 1 [.int .i64 x] rfl rfl (cell_one_new' _ _ _) (by intro u hu; simp at hu; subst hu; rfl) (by unfold maxLen; omega) (by omega) (by simp; omega) ?_; intro v5 w5 hown5 hg5 _; have hb5 : Below w.heap.size w w5 := (hb.alloc hs _).grown hg5 (by simp; omega) (fun g hg' => by have := (World.ownsRow.lt hown g hg').1; omega))
        go_ret
        have he : adL l x = o ++ [x] := HE2.out
        rw [he]
        obtain ⟨A', c', e1, e2, _, e3⟩ := ir_own (l := o ++ [x]) (n := o.length + 1) (by simpa [il_append, il] using hown5) (by simp)
        exact ⟨A', c', by rw [e1]; simp, by simpa using e2, e3, hb5⟩
      · go_wp2_with fail
        go_ret
        have he : adL l x = o := by have := HE2.out; simpa using this
        rw [he]
        obtain ⟨A', c', e1, e2, _, e3⟩ := ir_own hown rfl
        exact ⟨A', c', by simp [e1], e2, e3, hb⟩
end Go.Proofs.Ytigohhliblgdhaa
