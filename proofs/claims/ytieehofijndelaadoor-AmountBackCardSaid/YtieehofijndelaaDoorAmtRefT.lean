/- Walk: the text of an amount in the reference. -/
import Derived.Test.YtieehofijndelaaDoorAmtNum
import Derived.Test.YtieehofijndelaaDoorAmtMag
import Derived.Lib.IndexBytes
namespace Go.Proofs.YtieehofijndelaaDoor
open Go.RowKit

set_option maxHeartbeats 4000000 in
theorem refText_any (a : Int) (f : Nat) (w : World) (h1 : -9223372036854775808 ≤ a) (h2 : a ≤ 9223372036854775807) (hf : Lead (mag a) f) :
    Calls Tryd.prog 33 #[.int .i64 a] w fun e w' => e = .returned (.string (S (textL a (mag a) f))) ∧ Below w.heap.size w w' := by
  obtain ⟨m, hm⟩ : ∃ m, mag a = m := ⟨_, rfl⟩
  rw [hm] at hf ⊢
  have hm0 : 0 ≤ m ∧ m ≤ 9223372036854775808 := by rw [← hm]; unfold mag; split <;> omega
  have HT : Hid (∀ j i, IsLen (m / 10000) j → IsLen (10000 + m % 10000) i → textL a m f = (if a < 0 then [45] else []) ++ (lastD (m / 10000) j ++ [46] ++ (lastD (10000 + m % 10000) i).drop 1)) :=
    Lib.hid fun j i hj hi => text_ref hm0.1 (by omega) hf hj hi
  have hN1 := fun wx => number_any (m / 10000) wx (by omega) (by omega)
  have hN2 := fun wx => number_any (10000 + m % 10000) wx (by omega) (by omega)
  have H1 := Lib.hid hN1
  have H2 := Lib.hid hN2
  clear hN1 hN2 hf
  by_cases hneg : a < 0
  · have hma : m = -a := by rw [← hm]; exact mag_neg hneg
    have ham : a = -m := by omega
    have hq : a.tdiv 10000 = -(m / 10000) := by rw [ham, Int.neg_tdiv, Int.tdiv_eq_ediv_of_nonneg hm0.1]
    have hr : a.tmod 10000 = -(m % 10000) := by rw [ham, Int.neg_tmod, Int.tmod_eq_emod_of_nonneg hm0.1]
    have HM := Lib.hid hm
    clear hm hma ham
    go_enter Tryd.func33, Tryd.ntmps33
    go_wp2_with fail
    refine (H1.out _).mono ?_
    rintro e w1 ⟨j, hj, hj19, rfl, hb1⟩
    have hl1 := lastD_length j (m / 10000)
    have HLJ := Lib.hid hj
    have a1 : ∀ wx, (Op.stringOp .add ⟨#[45]⟩ (S (lastD (m / 10000) j))).run Tryd.prog wx = .ok (.string (S ([45] ++ lastD (m / 10000) j))) wx := fun wx => by
      rw [run_string_add_sum wx _ _ (by rw [S_size, hl1]; show 1 + j ≤ _; omega), show (⟨#[45]⟩ : ByteArray) = S [45] from rfl, S_append]
    have a2 : ∀ wx, (Op.stringOp .add (S ([45] ++ lastD (m / 10000) j)) ⟨#[46]⟩).run Tryd.prog wx = .ok (.string (S ([45] ++ lastD (m / 10000) j ++ [46]))) wx := fun wx => by
      rw [run_string_add_sum wx _ _ (by rw [S_size, List.length_append, hl1]; show 1 + j + 1 ≤ _; omega), show (⟨#[46]⟩ : ByteArray) = S [46] from rfl, S_append]
    obtain ⟨x1, hx1⟩ : ∃ x, S ([45] ++ lastD (m / 10000) j) = x := ⟨_, rfl⟩
    obtain ⟨x2, hx2⟩ : ∃ x, S ([45] ++ lastD (m / 10000) j ++ [46]) = x := ⟨_, rfl⟩
    rw [hx1] at a1 a2
    rw [hx2] at a2
    have HX2 := Lib.hid hx2
    have hs2 : x2.size = 1 + j + 1 := by rw [← hx2, S_size, List.length_append, List.length_append, hl1]; rfl
    have HS2 := Lib.hid hs2
    clear hj hl1 hx1 hx2 hs2
    go_wp2_with fail
    refine (H2.out _).mono ?_
    rintro e w2 ⟨i, hi, hi19, rfl, hb2⟩
    have hl2 := lastD_length i (10000 + m % 10000)
    have hx3 : (S (lastD (10000 + m % 10000) i)).extract 1 i = S ((lastD (10000 + m % 10000) i).drop 1) := by
      have e : (S (lastD (10000 + m % 10000) i)).size = i := by rw [S_size, hl2]
      rw [← S_of ((S (lastD (10000 + m % 10000) i)).extract 1 i)]
      congr 1
      have := Lib.extract_to_end (S (lastD (10000 + m % 10000) i)) 1
      rw [e] at this
      exact this
    have hsz3 : (S (lastD (10000 + m % 10000) i)).size = i := by rw [S_size, hl2]
    obtain ⟨d, hd⟩ : ∃ d, (lastD (10000 + m % 10000) i).drop 1 = d := ⟨_, rfl⟩
    rw [hd] at hx3
    have hdl : d.length ≤ 19 := by rw [← hd, List.length_drop, hl2]; omega
    have a3 : ∀ wx, (Op.stringOp .add x2 (S d)).run Tryd.prog wx = .ok (.string (S ([45] ++ lastD (m / 10000) j ++ [46] ++ d))) wx := fun wx => by
      rw [run_string_add_sum wx _ _ (by rw [S_size, HS2.out]; omega), ← HX2.out, S_append]
    have hi1 : 1 ≤ (i : Int) := by have := hi.1; omega
    have HF : Hid (S (textL a m f) = S ([45] ++ lastD (m / 10000) j ++ [46] ++ d)) := Lib.hid (by
      rw [HT.out j i HLJ.out hi, hd, if_pos (by omega)]; simp)
    clear hi hl2 hd hdl
    go_wp2
    go_ret
    exact ⟨ret_str (by rw [HF.out]; simp), hb1.trans (hb2.mono hb1.size)⟩
  · have hma : m = a := by rw [← hm]; exact mag_pos hneg
    have HM := Lib.hid hm
    have hq : a.tdiv 10000 = m / 10000 := by rw [← hma, Int.tdiv_eq_ediv_of_nonneg hm0.1]
    have hr : a.tmod 10000 = m % 10000 := by rw [← hma, Int.tmod_eq_emod_of_nonneg hm0.1]
    have hq' : a / 10000 = m / 10000 := by rw [hma]
    have hr' : a % 10000 = m % 10000 := by rw [hma]
    clear hm hma
    go_enter Tryd.func33, Tryd.ntmps33
    go_wp2_with fail
    refine (H1.out _).mono ?_
    rintro e w1 ⟨j, hj, hj19, rfl, hb1⟩
    have hl1 := lastD_length j (m / 10000)
    have HLJ := Lib.hid hj
    have a1 : ∀ wx, (Op.stringOp .add ⟨#[]⟩ (S (lastD (m / 10000) j))).run Tryd.prog wx = .ok (.string (S ([] ++ lastD (m / 10000) j))) wx := fun wx => by
      rw [run_string_add_sum wx _ _ (by rw [S_size, hl1]; show 0 + j ≤ _; omega), show (⟨#[]⟩ : ByteArray) = S [] from rfl, S_append]
    have a2 : ∀ wx, (Op.stringOp .add (S ([] ++ lastD (m / 10000) j)) ⟨#[46]⟩).run Tryd.prog wx = .ok (.string (S ([] ++ lastD (m / 10000) j ++ [46]))) wx := fun wx => by
      rw [run_string_add_sum wx _ _ (by rw [S_size, List.length_append, hl1]; show 0 + j + 1 ≤ _; omega), show (⟨#[46]⟩ : ByteArray) = S [46] from rfl, S_append]
    obtain ⟨x1, hx1⟩ : ∃ x, S ([] ++ lastD (m / 10000) j) = x := ⟨_, rfl⟩
    obtain ⟨x2, hx2⟩ : ∃ x, S ([] ++ lastD (m / 10000) j ++ [46]) = x := ⟨_, rfl⟩
    rw [hx1] at a1 a2
    rw [hx2] at a2
    have HX2 := Lib.hid hx2
    have hs2 : x2.size = 0 + j + 1 := by rw [← hx2, S_size, List.length_append, List.length_append, hl1]; rfl
    have HS2 := Lib.hid hs2
    clear hj hl1 hx1 hx2 hs2
    go_wp2_with fail
    refine (H2.out _).mono ?_
    rintro e w2 ⟨i, hi, hi19, rfl, hb2⟩
    have hl2 := lastD_length i (10000 + m % 10000)
    have hx3 : (S (lastD (10000 + m % 10000) i)).extract 1 i = S ((lastD (10000 + m % 10000) i).drop 1) := by
      have e : (S (lastD (10000 + m % 10000) i)).size = i := by rw [S_size, hl2]
      rw [← S_of ((S (lastD (10000 + m % 10000) i)).extract 1 i)]
      congr 1
      have := Lib.extract_to_end (S (lastD (10000 + m % 10000) i)) 1
      rw [e] at this
      exact this
    have hsz3 : (S (lastD (10000 + m % 10000) i)).size = i := by rw [S_size, hl2]
    obtain ⟨d, hd⟩ : ∃ d, (lastD (10000 + m % 10000) i).drop 1 = d := ⟨_, rfl⟩
    rw [hd] at hx3
    have hdl : d.length ≤ 19 := by rw [← hd, List.length_drop, hl2]; omega
    have a3 : ∀ wx, (Op.stringOp .add x2 (S d)).run Tryd.prog wx = .ok (.string (S ([] ++ lastD (m / 10000) j ++ [46] ++ d))) wx := fun wx => by
      rw [run_string_add_sum wx _ _ (by rw [S_size, HS2.out]; omega), ← HX2.out, S_append]
    have hi1 : 1 ≤ (i : Int) := by have := hi.1; omega
    have HF : Hid (S (textL a m f) = S ([] ++ lastD (m / 10000) j ++ [46] ++ d)) := Lib.hid (by
      rw [HT.out j i HLJ.out hi, hd, if_neg (by omega)]; simp)
    clear hi hl2 hd hdl
    go_wp2
    go_ret
    exact ⟨ret_str (by rw [HF.out]; simp), hb1.trans (hb2.mono hb1.size)⟩
end Go.Proofs.YtieehofijndelaaDoor
