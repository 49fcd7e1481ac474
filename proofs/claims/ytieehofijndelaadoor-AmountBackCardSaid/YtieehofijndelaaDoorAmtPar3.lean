/- Walk: the amount that a text denotes, in the program. -/
import Derived.Test.YtieehofijndelaaDoorAmtValM
import Derived.Test.YtieehofijndelaaDoorAmtTxt
namespace Go.Proofs.YtieehofijndelaaDoor
open Go.RowKit

/-- The value of the first i of n digits, at their places. -/
def partV (D : List UInt8) (i : Nat) : Int := valL (D.take i) * (10 : Int) ^ (D.length - i)
theorem partV_zero (D : List UInt8) : partV D 0 = 0 := by simp [partV, valL]
theorem partV_all (D : List UInt8) : partV D D.length = valL D := by simp [partV]
theorem partV_step {D : List UInt8} {i : Nat} (h : i < D.length) : partV D (i + 1) = partV D i + dv D[i] * (10 : Int) ^ (D.length - 1 - i) := by
  unfold partV
  have e : D.length - i = (D.length - 1 - i) + 1 := by omega
  have e2 : D.length - (i + 1) = D.length - 1 - i := by omega
  rw [List.take_succ_eq_append_getElem h, valL_snoc, e, e2, pow_succ', Int.add_mul]
  congr 1
  rw [Int.mul_comm 10 (valL _), Int.mul_assoc]
theorem all_take {D : List UInt8} (h : D.all dgt = true) (i : Nat) : (D.take i).all dgt = true := by
  rw [List.all_eq_true] at h ⊢
  exact fun x hx => h x (List.mem_of_mem_take hx)
theorem partV_bounds {D : List UInt8} (h : D.all dgt = true) (hl : D.length ≤ 19) (i : Nat) (hi : i ≤ D.length) : 0 ≤ partV D i ∧ partV D i < 10000000000000000000 := by
  have h1 := valL_nonneg _ (all_take h i)
  have h2 := valL_lt _ (all_take h i)
  have hlt : (D.take i).length = i := by rw [List.length_take]; omega
  rw [hlt] at h2
  have h3 := pow_one_le (D.length - i)
  refine ⟨Int.mul_nonneg h1 (by omega), ?_⟩
  have h4 : partV D i < 10 ^ i * 10 ^ (D.length - i) := Int.mul_lt_mul_of_pos_right h2 (by omega)
  rw [← Int.pow_add, show i + (D.length - i) = D.length from by omega] at h4
  have key : ∀ n : Fin 20, (10 : Int) ^ n.val ≤ 10000000000000000000 := by decide
  have := key ⟨D.length, by omega⟩
  simp only at this
  omega

theorem wrap_in {x : Int} (h : 0 ≤ x) (h2 : x ≤ 18446744073709551615) : IntKind.u64.wrap x = x := by
  simp [IntKind.wrap, IntKind.min, IntKind.max, IntKind.signed, IntKind.bits]
  omega
theorem wrap_step {v d p : Int} (hv : 0 ≤ v) (hd : 0 ≤ d) (hp : 1 ≤ p) (h : v + d * p < 10000000000000000000) : IntKind.u64.wrap (v + IntKind.u64.wrap (d * p)) = v + d * p := by
  have h1 : 0 ≤ d * p := Int.mul_nonneg hd (by omega)
  rw [wrap_in h1 (by omega), wrap_in (by omega) (by omega)]

set_option maxHeartbeats 4000000 in
theorem parse_good (s : ByteArray) (w : World) (hs : s.size ≤ 65536) (h : synB s.data.toList = true) (hP : Pows w) (hz : 0 < w.heap.size) :
    Calls Tryd.prog 31 #[.string s] w fun e w' => e = .returned (.tuple #[.int .i64 (psV s.data.toList), .int .i64 (psE s.data.toList)]) ∧ Below w.heap.size w w' := by
  have hS := S_toList
  have l1 := posL_len s.data.toList
  have l2 := cutA_len (posL s.data.toList) 46
  have l3 := cutB_len (posL s.data.toList) 46
  rw [len_data] at l1
  have hC := fun wx => cut_any (S (posL s.data.toList)) 46 wx (by rw [S_size]; unfold maxLen; omega)
  have HC := Lib.hid hC
  have hQ := fun wx => isQuotient_any (S (cutA (posL s.data.toList) 46)) wx (by rw [S_size]; unfold maxLen; omega)
  have HQ := Lib.hid hQ
  have hFr := fun wx => isFraction_any (S (cutB (posL s.data.toList) 46)) wx (by rw [S_size]; unfold maxLen; omega)
  have HFr := Lib.hid hFr
  have hdig := syn_digits h
  have H := Lib.hid h
  have hsplit : quoB (cutA (posL s.data.toList) 46) = true ∧ fraB (cutB (posL s.data.toList) 46) = true ∧ (s.toList == [45, 48, 46, 48, 48, 48, 48]) = false := by
    simp only [synB, Bool.and_eq_true] at h
    refine ⟨h.1.1, h.1.2, ?_⟩
    rw [toList_eq]
    simpa using h.2
  obtain ⟨h1, h2, h3⟩ := hsplit
  have hadd : ∀ wx, (Op.stringOp .add (S (cutA (posL s.data.toList) 46)) (S (cutB (posL s.data.toList) 46))).run Tryd.prog wx = .ok (.string (S (digL s.data.toList))) wx := fun wx => by
    rw [run_string_add_sum wx _ _ (by rw [S_size, S_size]; omega), S_append]; rfl
  obtain ⟨D, hD⟩ : ∃ D, digL s.data.toList = D := ⟨_, rfl⟩
  obtain ⟨t, ht⟩ : ∃ t, S D = t := ⟨_, rfl⟩
  rw [hD] at hdig hadd
  rw [ht] at hadd
  have htl : t.data.toList = D := by rw [← ht]; rfl
  have hts : t.size = D.length := by rw [← htl]; simp
  have HP := Lib.hid hP
  have HD := Lib.hid hD
  have HT := Lib.hid htl
  have hts1 : t.size ≤ 131072 := by
    rw [hts, ← hD]; unfold digL; rw [List.length_append]; omega
  have HTS := Lib.hid hts
  clear hC hQ hFr l1 l2 l3 h hP hD ht htl hts
  have HDG := Lib.hid hdig
  clear hdig
  go_enter Tryd.func31, Tryd.ntmps31
  by_cases hbig : (19 : Int) < t.size
  · have hval : 1125899906842624 < valL D := by
      have hd := HDG.out
      have h19 : 19 < D.length := by rw [← HTS.out]; omega
      have h4 := valL_ge D hd.1 (by intro e; rw [e] at h19; simp at h19) (by rcases hd.2.2.2 with h | h; exact h; omega)
      have h5 : (10 : Int) ^ 19 ≤ 10 ^ (D.length - 1) := by
        have e : D.length - 1 = 19 + (D.length - 20) := by omega
        rw [e, Int.pow_add]
        have := pow_one_le (D.length - 20)
        omega
      have : (10 : Int) ^ 19 = 10000000000000000000 := by decide
      omega
    have HF := Lib.hid (ps_big (l := s.data.toList) H.out (by rw [HD.out]; exact hval))
    clear hval
    go_wp2_with (first
      | (go_at_call 44; refine (trim_any _ _).mono ?_; rintro e w1 ⟨rfl, rfl⟩)
      | (go_at_call 45; refine (HC.out _).mono ?_; rintro e w1 ⟨rfl, n, rfl⟩)
      | (go_at_call 46; refine (HQ.out _).mono ?_; rintro e w1 ⟨rfl, rfl⟩)
      | (go_at_call 47; refine (HFr.out _).mono ?_; rintro e w1 ⟨rfl, rfl⟩))
    go_ret2
    exact ⟨ret_ints HF.out.1.symm HF.out.2.symm, below_drewN (Below.refl _ _) _⟩
  · go_wp2_with (first
      | (go_at_call 44; refine (trim_any _ _).mono ?_; rintro e w1 ⟨rfl, rfl⟩)
      | (go_at_call 45; refine (HC.out _).mono ?_; rintro e w1 ⟨rfl, n, rfl⟩)
      | (go_at_call 46; refine (HQ.out _).mono ?_; rintro e w1 ⟨rfl, rfl⟩)
      | (go_at_call 47; refine (HFr.out _).mono ?_; rintro e w1 ⟨rfl, rfl⟩))
    have hb0 : Below w.heap.size w (w.drewN n) := below_drewN (Below.refl _ _) _
    generalize w.drewN n = wq at *
    go_loopw [9, 39] (fun v i wr => ∃ k : Nat, k ≤ t.size ∧ i = .int .i64 k ∧ v = .int .u64 (partV D k) ∧ Below w.heap.size w wr) (fun _ i _ => t.size - (intOf i).toNat)
    case atStart => exact ⟨0, by omega, rfl, by rw [partV_zero], hb0⟩
    case round =>
      obtain ⟨k, hk, rfl, rfl, hb⟩ := hrel
      have hDl : D.length ≤ 19 := by rw [← HTS.out]; omega
      have hpb := partV_bounds HDG.out.1 hDl k (by rw [← HTS.out]; exact hk)
      by_cases hlt : k < t.size
      · have hlD : k < D.length := by rw [← HTS.out]; exact hlt
        have hpb2 := partV_bounds HDG.out.1 hDl (k + 1) (by omega)
        have hstep := partV_step hlD
        have hg := (HP.out.below hz hb) (t.size - 1 - k) (by omega)
        have hpw := pow_pos' (t.size - 1 - k) (by omega)
        rw [← HTS.out] at hstep
        have hbyte : D[k] = t[k] := by
          have := HT.out
          subst this
          rfl
        rw [hbyte] at hstep
        have hcd : 48 ≤ (t[k].toNat : Int) ∧ (t[k].toNat : Int) ≤ 57 := by
          have := List.all_eq_true.1 HDG.out.1 D[k] (List.getElem_mem hlD)
          rw [hbyte] at this
          simpa [dgt] using this
        rw [hstep] at hpb2
        have HST := Lib.hid hstep
        unfold dv at hpb2 HST
        clear hstep hbyte
        generalize partV D k = v at *
        generalize (10 : Int) ^ (t.size - 1 - k) = p at *
        have HW := Lib.hid (wrap_step (v := v) (d := (t[k].toNat : Int) - 48) (p := p) hpb.1 (by omega) hpw.1 hpb2.2)
        clear hpb2
        go_wp2
        go_quiet (fail)
        go_wp2
        go_roundw
        case rel => exact ⟨k + 1, by omega, by go_num, by rw [HW.out, HST.out], below_drewN hb _⟩
        case measure => simp [intOf]; omega
      · obtain rfl : k = t.size := by omega
        have hall : partV D t.size = valL D := by rw [HTS.out, partV_all]
        rw [hall] at hpb ⊢
        clear hall
        by_cases hm : 1125899906842624 < valL D
        · have HF := Lib.hid (ps_big (l := s.data.toList) H.out (by rw [HD.out]; exact hm))
          go_wp2
          go_ret2
          exact ⟨ret_ints HF.out.1.symm HF.out.2.symm, hb⟩
        · have hm' : valL D ≤ 1125899906842624 := by omega
          by_cases hp : posL s.data.toList = s.data.toList
          · have HF := Lib.hid (ps_pos (l := s.data.toList) H.out (by rw [HD.out]; exact hm') hp)
            have hne : (!((S (posL s.data.toList)).toList == s.toList)) = false := by rw [hp, S_of]; simp
            have HPp := Lib.hid hp; clear hp
            go_wp2
            go_ret2
            exact ⟨ret_ints (by rw [HF.out.1, HD.out]) HF.out.2.symm, hb⟩
          · have HF := Lib.hid (ps_neg (l := s.data.toList) H.out (by rw [HD.out]; exact hm') hp)
            have hne : (!((S (posL s.data.toList)).toList == s.toList)) = true := by
              rw [toList_eq, toList_eq, S_toList]
              simpa using hp
            have HPp := Lib.hid hp; clear hp
            go_wp2
            go_ret2
            exact ⟨ret_ints (by rw [HF.out.1, HD.out]) HF.out.2.symm, hb⟩
end Go.Proofs.YtieehofijndelaaDoor
