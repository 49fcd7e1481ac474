/- Walks: sortAt, Expr; the reference's at and Expr. -/
import Derived.Test.YtpkmnefbofhjbaaGreatCkW
import Derived.Maps.AppendAt
namespace Go.Proofs.YtpkmnefbofhjbaaGreat.Ck
open Go Go.Lib Go.RowKit Go.Proofs.YtpkmnefbofhjbaaGreat Go.Maps

theorem s1_any (x r : Int) (g : Nat) (W : World) (hB : Blk W g 3 #[.int .i64 r]) (v : Bool) (hv : (x != r) = v) :
    Calls Tryz.prog 116 #[.int .i64 x, .pointer (some ⟨g, 0, none⟩)] W fun e w' => e = .returned (.bool v) ∧ W = w' := by
  have h1 := hB.cell 0
  clear hB
  go_enter Tryz.func116, Tryz.ntmps116
  go_wp2
  go_ret
  exact ⟨rfl, rfl⟩
theorem anyI {l : List Int} {r : Int} (h : ∀ j, j < l.length → l.getD j 0 = r) : (l.any fun s => decide (s ≠ r)) = false := by
  rw [List.any_eq_false]
  intro x hx
  obtain ⟨j, hj, rfl⟩ := List.mem_iff_getElem.1 hx
  have := h j hj
  simpa [List.getD, List.getElem?_eq_getElem hj] using this
theorem anyI_yes {l : List Int} {r : Int} {k : Nat} (hk : k < l.length) (h : l.getD k 0 ≠ r) : (l.any fun s => decide (s ≠ r)) = true := by
  rw [List.any_eq_true]
  exact ⟨l[k], List.getElem_mem _, by simpa [List.getD, List.getElem?_eq_getElem hk] using h⟩
set_option maxHeartbeats 4000000 in
theorem indexI_any (B : Option Addr) (m c : Nat) (l : List Int) (r : Int) (g : Nat) (w : World) (hB : IR w B l) (hl : l.length = m) (hc : m ≤ c) (hm : c ≤ maxLen) (hg : Blk w g 3 #[.int .i64 r]) :
    Calls Tryz.prog 121 #[.slice B m c, .func (.func 116) #[] #[.pointer (some ⟨g, 0, none⟩)]] w fun e w' => (∃ v : Int, e = .returned (.int .i64 v) ∧ decide (0 ≤ v) = (l.any fun s => decide (s ≠ r))) ∧ w' = w := by
  unfold maxLen at hm
  have HB := Lib.hid hB; have HL := Lib.hid hl; have HG := Lib.hid hg
  clear hB hl hg
  go_enter Tryz.func121, Tryz.ntmps121
  go_wp2_with fail
  go_loopw [8] (fun iv wr => ∃ k : Nat, iv = .int .i64 k ∧ k ≤ m ∧ wr = w ∧ Hid (∀ j, j < k → l.getD j 0 = r)) (fun iv _ => m - (RowKit.intOf iv).toNat)
  case atStart => exact ⟨0, rfl, by omega, rfl, Lib.hid fun j h => absurd h (Nat.not_lt_zero j)⟩
  case round =>
    obtain ⟨k, rfl, hk, rfl, HO⟩ := hrel
    by_cases hlt : k < m
    · have hkl : k < l.length := by rw [HL.out]; exact hlt
      obtain ⟨b, off, rfl, hbl, e0⟩ := HB.out k hkl
      have hlt' : (k : Int) < (m : Int) := by omega
      obtain ⟨x, hx⟩ : ∃ x, l.getD k 0 = x := ⟨_, rfl⟩
      rw [hx] at e0
      have HX := Lib.hid hx; have HKL := Lib.hid hkl
      clear hx hkl
      cases hv : (x != r)
      · have HC := Lib.hid (fun W h => s1_any x r g W h _ hv)
        have HO2 : Hid (∀ j, j < k + 1 → l.getD j 0 = r) := Lib.hid fun j h => by
          rcases Nat.lt_or_ge j k with h | h
          · exact HO.out j h
          · obtain rfl : j = k := by omega
            rw [HX.out]; simpa using hv
        clear hv
        go_wp2_with (go_at_call 116; (with_reducible refine (HC.out _ HG.out).mono ?_); rintro e w1 ⟨rfl, rfl⟩)
        go_roundw
        case rel => exact ⟨k + 1, by go_num, by omega, by simp, HO2⟩
        case measure => simp [RowKit.intOf]; omega
      · have HC := Lib.hid (fun W h => s1_any x r g W h _ hv)
        have HR := Lib.hid (anyI_yes (r := r) HKL.out (by rw [HX.out]; simpa using hv))
        clear hv
        go_wp2_with (go_at_call 116; (with_reducible refine (HC.out _ HG.out).mono ?_); rintro e w1 ⟨rfl, rfl⟩)
        go_ret
        exact ⟨⟨k, rfl, by rw [HR.out]; exact decide_eq_true (by omega)⟩, rfl⟩
    · obtain rfl : k = m := by omega
      have HR := Lib.hid (anyI (l := l) (r := r) (by rw [HL.out]; exact HO.out))
      have hd : decide ((k : Int) < (k : Int)) = false := decide_eq_false (by omega)
      go_wp2_with fail
      go_ret
      exact ⟨⟨-1, rfl, by rw [HR.out]; rfl⟩, rfl⟩
theorem containsI_is (B : Option Addr) (m c : Nat) (l : List Int) (r : Int) (g : Nat) (w : World) (hB : IR w B l) (hl : l.length = m) (hc : m ≤ c) (hm : c ≤ maxLen) (hg : Blk w g 3 #[.int .i64 r]) (v : Bool) (hv : (l.any fun s => decide (s ≠ r)) = v) :
    Calls Tryz.prog 115 #[.slice B m c, .func (.func 116) #[] #[.pointer (some ⟨g, 0, none⟩)]] w fun e w' => e = .returned (.bool v) ∧ w' = w := by
  have H := Lib.hid (indexI_any B m c l r g w hB hl hc hm hg)
  rw [hv] at H
  clear hB hl hg hv
  go_enter Tryz.func115, Tryz.ntmps115
  go_wp2_with (go_at_call 121; (with_reducible refine H.out.mono ?_); rintro e w1 ⟨⟨x, rfl, hx⟩, rfl⟩)
  go_ret
  exact ⟨ret_b rfl, rfl⟩
theorem intInfo : (Tryz.prog.info? 3).map (fun i => (i.zero, i.size, i.bytes)) = some (some (.int .i64 0), 1, 8) := by kernel_rfl
theorem ir_own {w : World} {base n : Nat} {v : Value} {l : List Int} (h : w.ownsRow base 3 1 v n (l.map (Value.int .i64))) (hl : l.length = n) : ∃ B c, v = .slice B n c ∧ n ≤ c ∧ c ≤ maxLen ∧ IR w B l := by
  rcases h.2 with ⟨rfl, rfl⟩ | ⟨g, cap, cur, rfl, h1, h2, h3, h4, h5, h6⟩
  · exact ⟨none, 0, rfl, Nat.le_refl _, Nat.zero_le _, fun k hk => by omega⟩
  · refine ⟨_, cap, rfl, h3, h4, fun k hk => ⟨g, 0, rfl, (Array.getElem?_eq_some_iff.1 h2).1, ?_⟩⟩
    rw [Nat.zero_add, World.ownsRow.cellAt h k (by omega), List.getElem?_map, List.getD_eq_getElem?_getD, List.getElem?_eq_getElem hk]; rfl
theorem IR.belowC {w w' : World} {B : Option Addr} {l : List Int} (h : IR w B l) (hb : Below w.heap.size w w') : IR w' B l := h.below hb
theorem IR.drewC {w : World} {B : Option Addr} {l : List Int} (h : IR w B l) (n : Nat) : IR (w.drewN n) B l := h
theorem sorts_drop {f : Ex → Int × Int} {l : List Ex} {k : Nat} (h : k < l.length) {e : Ex} (he : l[k]? = some e) : sorts f (l.drop k) = if (f e).2 = 0 then ((f e).1 :: (sorts f (l.drop (k + 1))).1, (sorts f (l.drop (k + 1))).2) else ([], (f e).2) := by
  have : l[k] = e := by rw [List.getElem?_eq_getElem h] at he; exact Option.some.inj he
  rw [List.drop_eq_getElem_cons h, this]; rfl
/-- The sorts found so far, in a row of the call's own. -/
def Acc (f : Ex → Int × Int) (args : List Ex) (base j : Nat) (v : Value) (w : World) : Prop := ∃ acc : List Int, w.ownsRow base 3 1 v j (acc.map (Value.int .i64)) ∧ acc.length = j ∧ sorts f args = (acc ++ (sorts f (args.drop j)).1, (sorts f (args.drop j)).2)
theorem Acc.zero (f : Ex → Int × Int) (args : List Ex) (base : Nat) (w : World) : Acc f args base 0 (.slice none 0 0) w := ⟨[], World.ownsRow_nil _ _ _ _, rfl, by simp⟩
theorem Acc.keep {f : Ex → Int × Int} {args : List Ex} {base j : Nat} {v : Value} {w w' : World} (h : Acc f args base j v w) (hb : Below w.heap.size w w') : Acc f args base j v w' := by
  obtain ⟨acc, h1, h2⟩ := h
  exact ⟨acc, Zn.own_keep h1 hb, h2⟩
def SoOut (k : Nat) (e : Ex) (w : World) (en : Ending) (w' : World) : Prop := en = .returned (.tuple #[.int .i64 (sortX k e).1, .int .i64 (sortX k e).2]) ∧ Below w.heap.size w w'
theorem SoOut.mk {k : Nat} {e : Ex} {w w' : World} {a b : Int} (h : sortX k e = (a, b)) (hb : Below w.heap.size w w') : SoOut k e w (.returned (.tuple #[.int .i64 a, .int .i64 b])) w' := by
  unfold SoOut; rw [h]; exact ⟨rfl, hb⟩
theorem checkFields_is {lv op num : Int} {tx : ByteArray} {n : Nat} {v : Int} (h : cfE lv op num tx n = v) (A : Option Addr) (c : Nat) (w : World) (hc : n ≤ c) (hm : c ≤ maxLen) (ht : tx.size ≤ maxLen) :
    Calls Tryz.prog 113 #[.agg #[.int .i64 op, .int .i64 num, .string tx, .slice A n c], .int .i64 lv] w fun e w' => e = .returned (.int .i64 v) ∧ Below w.heap.size w w' := by
  subst h; exact checkFields_any lv op num tx A n c w hc hm ht
end Go.Proofs.YtpkmnefbofhjbaaGreat.Ck
