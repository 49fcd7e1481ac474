/- Walks of the reference: Count and SmallExpr. -/
import Derived.Test.YtpkmnefbofhjbaaGreatCkE
namespace Go.Proofs.YtpkmnefbofhjbaaGreat.Ck
open Go Go.Lib Go.RowKit Go.Proofs.YtpkmnefbofhjbaaGreat Go.Maps

theorem el_at {l : List Ex} {j : Nat} (h : j < l.length) {e : Ex} (he : l[j]? = some e) : l.drop j = e :: l.drop (j + 1) := by
  have : l[j] = e := by rw [List.getElem?_eq_getElem h] at he; exact Option.some.inj he
  rw [List.drop_eq_getElem_cons h, this]
theorem cnt_mk (op num : Int) (tx : ByteArray) (args : List Ex) : cnt (.mk op num tx args) = 1 + cnt.cnts args := by rw [cnt]
theorem cnts_drop {l : List Ex} {j : Nat} (h : j < l.length) {e : Ex} (he : l[j]? = some e) : cnt.cnts (l.drop j) = cnt e + cnt.cnts (l.drop (j + 1)) := by rw [el_at h he, cnt.cnts]
theorem cnts_end (l : List Ex) : cnt.cnts (l.drop l.length) = 0 := by rw [List.drop_length, cnt.cnts]
theorem cnts_le {l : List Ex} {m : Nat} : (∀ e ∈ l, cnt e ≤ m) → cnt.cnts l ≤ l.length * m := by
  induction l with
  | nil => intro _; rw [cnt.cnts]; omega
  | cons x t ih =>
    intro h
    rw [cnt.cnts, List.length_cons, Nat.succ_mul]
    have h1 := h x (by simp)
    have h2 := ih (fun e he => h e (List.mem_cons_of_mem _ he))
    omega
theorem smls_all (l : List Ex) : sml.smls l = l.all sml := by
  induction l with
  | nil => rw [sml.smls]; rfl
  | cons x t ih => rw [sml.smls, List.all_cons, ih]
theorem sml_mk (op num : Int) (tx : ByteArray) (args : List Ex) : sml (.mk op num tx args) = (args.all sml && decide (tx.size ≤ 300) && decide (args.length ≤ 8) && decide (cnt (.mk op num tx args) ≤ 120)) := by
  rw [sml, smls_all]
theorem sml_cnt {e : Ex} (h : sml e = true) : cnt e ≤ 120 := by
  obtain ⟨op, num, tx, args⟩ := e
  rw [sml_mk] at h
  simp only [Bool.and_eq_true, decide_eq_true_eq] at h
  exact h.2
theorem all_not {l : List Ex} {j : Nat} {e : Ex} (he : l[j]? = some e) (h : sml e = false) : l.all sml = false := by
  rw [List.all_eq_false]
  exact ⟨e, List.mem_of_getElem? he, by rw [h]; decide⟩
theorem all_yes {l : List Ex} (h : ∀ (j : Nat) (e : Ex), l[j]? = some e → sml e = true) : l.all sml = true := by
  rw [List.all_eq_true]
  intro e he
  obtain ⟨j, hj, rfl⟩ := List.mem_iff_getElem.1 he
  exact h j _ (List.getElem?_eq_getElem hj)
set_option maxRecDepth 100000 in
set_option maxHeartbeats 16000000 in
theorem count_any : ∀ (d : Nat) (op num : Int) (tx : ByteArray) (args : List Ex) (A : Option Addr) (n c : Nat) (w : World), XA w d A args → args.length = n → n ≤ c → c ≤ maxLen → cnt (.mk op num tx args) ≤ 1000000 →
    Calls Tryz.prog 68 #[.agg #[.int .i64 op, .int .i64 num, .string tx, .slice A n c]] w fun e w' => e = .returned (.int .i64 (cnt (.mk op num tx args) : Nat)) ∧ Below w.heap.size w w' := by
  intro d
  induction d using Nat.strongRecOn with
  | _ d ih =>
    intro op num tx args A n c w hA hn hc hm hcn
    obtain ⟨W1, hW1⟩ : ∃ W, w.alloc (.cells #[.int .i64 op, .int .i64 num, .string tx, .slice A n c] 67) = W := ⟨_, rfl⟩
    obtain ⟨g, hg⟩ : ∃ g, w.heap.size = g := ⟨_, rfl⟩
    have hbk : Blk W1 g 67 #[.int .i64 op, .int .i64 num, .string tx, .slice A n c] := hW1 ▸ hg ▸ Blk.new w _ _
    have HB := Lib.hid (show Below w.heap.size w W1 from hW1 ▸ below_one w _)
    have HBK := Lib.hid hbk
    have HA1 := Lib.hid (hA.below HB.out)
    obtain ⟨N, hN⟩ : ∃ N, cnt (.mk op num tx args) = N := ⟨_, rfl⟩
    rw [hN] at hcn ⊢
    have HS0 : Hid (1 + cnt.cnts (args.drop 0) = N) := Lib.hid (by rw [List.drop_zero, ← hN, cnt_mk])
    have hm' := hm
    unfold maxLen at hm'
    have HN := Lib.hid hn
    have HIH : Hid (∀ (o m : Int) (t : ByteArray) (us : List Ex) (A' : Option Addr) (n' c' : Nat) (W : World) (q : Nat), 0 < d → XA W (d - 1) A' us → us.length = n' → n' ≤ c' → c' ≤ maxLen → cnt (.mk o m t us) = q → q ≤ 1000000 →
        Calls Tryz.prog 68 #[.agg #[.int .i64 o, .int .i64 m, .string t, .slice A' n' c']] W fun e w' => e = .returned (.int .i64 (q : Nat)) ∧ Below W.heap.size W w') := Lib.hid (fun o m t us A' n' c' W q hd h1 h2 h3 h4 h5 h6 => by
      subst h5; exact ih (d - 1) (by omega) o m t us A' n' c' W h1 h2 h3 h4 h6)
    clear ih hA hn hN hbk
    go_enter Tryz.func68, Tryz.ntmps68
    go_wp2_with fail
    go_loopw [3, 4] (fun v iv wr => ∃ j s : Nat, iv = .int .i64 j ∧ v = .int .i64 s ∧ j ≤ n ∧ Below W1.heap.size W1 wr ∧ Hid (s + cnt.cnts (args.drop j) = N)) (fun _ iv _ => n - (RowKit.intOf iv).toNat)
    case atStart => exact ⟨0, 1, rfl, rfl, by omega, Below.refl _ _, HS0⟩
    case round =>
      obtain ⟨j, s, rfl, rfl, hj, hb, HS⟩ := hrel
      have hs := hb.size
      have c3 := (HBK.out.below hb HBK.out.lt).cell 3
      by_cases hlt : j < n
      · have hlt' : (j : Int) < (n : Int) := by omega
        have hjl : j < args.length := by rw [HN.out]; exact hlt
        obtain ⟨b, off, o, m, t, us, A', c', rfl, hbl, hei, g0, g1, g2, g3, u1, u2, u3, hX⟩ := HA1.out.at hjl
        have e0 := (hb.cell (p := ⟨b, off + j * 4, none⟩) hbl).trans g0
        have e1 := (hb.cell (p := ⟨b, off + j * 4 + 1, none⟩) hbl).trans g1
        have e2 := (hb.cell (p := ⟨b, off + j * 4 + 2, none⟩) hbl).trans g2
        have e3 := (hb.cell (p := ⟨b, off + j * 4 + 3, none⟩) hbl).trans g3
        obtain ⟨nu, hnu⟩ : ∃ x, us.length = x := ⟨_, rfl⟩
        rw [hnu] at e3 u1
        obtain ⟨q, hq⟩ : ∃ q, cnt (.mk o m t us) = q := ⟨_, rfl⟩
        have hsum := HS.out
        rw [cnts_drop hjl hei, hq] at hsum
        have hqs : s + q ≤ 1000000 := by omega
        have HS2 : Hid (s + q + cnt.cnts (args.drop (j + 1)) = N) := Lib.hid (by omega)
        have HCL := Lib.hid (HIH.out o m t us A' nu c' wr q (HA1.out.lt hjl) (hX.below hb) hnu u1 u2 hq (by omega))
        clear g0 g1 g2 g3 u1 u2 u3 hX hnu hei hq hjl hbl hsum HS
        go_wp2_with (go_at_call 68; (with_reducible refine HCL.out.mono ?_); rintro e w3 ⟨rfl, hb3⟩; have HB3 := Lib.hid (hb.trans (hb3.mono hs)); clear hb3 e0 e1 e2 e3 c3)
        go_roundw
        case rel => exact ⟨j + 1, s + q, by go_num, by go_num, by omega, HB3.out, HS2⟩
        case measure => simp [RowKit.intOf]; omega
      · obtain rfl : j = n := by omega
        have HR : Hid (s = N) := Lib.hid (by
          have h := HS.out
          rw [← HN.out, cnts_end] at h; omega)
        have hd : decide ((j : Int) < (j : Int)) = false := decide_eq_false (by omega)
        go_wp2_with fail
        go_ret
        exact ⟨ret_i (by rw [HR.out]), HB.out.trans (hb.mono HB.out.size)⟩
theorem count_is {op num : Int} {tx : ByteArray} {args : List Ex} {q : Nat} (h : cnt (.mk op num tx args) = q) (A : Option Addr) (d n c : Nat) (w : World) (hA : XA w d A args) (hn : args.length = n) (hc : n ≤ c) (hm : c ≤ maxLen) (hq : q ≤ 1000000) :
    Calls Tryz.prog 68 #[.agg #[.int .i64 op, .int .i64 num, .string tx, .slice A n c]] w fun e w' => e = .returned (.int .i64 (q : Nat)) ∧ Below w.heap.size w w' := by
  subst h; exact count_any d op num tx args A n c w hA hn hc hm hq
set_option maxRecDepth 100000 in
set_option maxHeartbeats 16000000 in
theorem small_any : ∀ (d : Nat) (op num : Int) (tx : ByteArray) (args : List Ex) (A : Option Addr) (n c : Nat) (w : World), XA w d A args → args.length = n → n ≤ c → c ≤ maxLen → tx.size ≤ maxLen →
    Calls Tryz.prog 26 #[.agg #[.int .i64 op, .int .i64 num, .string tx, .slice A n c]] w fun e w' => e = .returned (.bool (sml (.mk op num tx args))) ∧ Below w.heap.size w w' := by
  intro d
  induction d using Nat.strongRecOn with
  | _ d ih =>
    intro op num tx args A n c w hA hn hc hm ht
    obtain ⟨W1, hW1⟩ : ∃ W, w.alloc (.cells #[.int .i64 op, .int .i64 num, .string tx, .slice A n c] 67) = W := ⟨_, rfl⟩
    obtain ⟨g, hg⟩ : ∃ g, w.heap.size = g := ⟨_, rfl⟩
    have hbk : Blk W1 g 67 #[.int .i64 op, .int .i64 num, .string tx, .slice A n c] := hW1 ▸ hg ▸ Blk.new w _ _
    have HB := Lib.hid (show Below w.heap.size w W1 from hW1 ▸ below_one w _)
    have HBK := Lib.hid hbk
    have HA1 := Lib.hid (hA.below HB.out)
    obtain ⟨R, hR⟩ : ∃ R, sml (.mk op num tx args) = R := ⟨_, rfl⟩
    rw [hR]
    have HR : Hid (R = (args.all sml && decide (tx.size ≤ 300) && decide (args.length ≤ 8) && decide (cnt (.mk op num tx args) ≤ 120))) := Lib.hid (by rw [← hR, sml_mk])
    have hm' := hm
    unfold maxLen at hm' ht
    have HN := Lib.hid hn
    have HIH : Hid (∀ (o m : Int) (t : ByteArray) (us : List Ex) (A' : Option Addr) (n' c' : Nat) (W : World) (q : Bool), 0 < d → XA W (d - 1) A' us → us.length = n' → n' ≤ c' → c' ≤ maxLen → t.size ≤ maxLen → sml (.mk o m t us) = q →
        Calls Tryz.prog 26 #[.agg #[.int .i64 o, .int .i64 m, .string t, .slice A' n' c']] W fun e w' => e = .returned (.bool q) ∧ Below W.heap.size W w') := Lib.hid (fun o m t us A' n' c' W q hd h1 h2 h3 h4 h5 h6 => by
      subst h6; exact ih (d - 1) (by omega) o m t us A' n' c' W h1 h2 h3 h4 h5)
    clear ih hA hn hR hbk
    go_enter Tryz.func26, Tryz.ntmps26
    go_wp2_with fail
    go_loopw [3] (fun iv wr => ∃ j : Nat, iv = .int .i64 j ∧ j ≤ n ∧ Below W1.heap.size W1 wr ∧ Hid (∀ i e, i < j → args[i]? = some e → sml e = true)) (fun iv _ => n - (RowKit.intOf iv).toNat)
    case atStart => exact ⟨0, rfl, by omega, Below.refl _ _, Lib.hid (fun i e h => absurd h (Nat.not_lt_zero i))⟩
    case round =>
      obtain ⟨j, rfl, hj, hb, HS⟩ := hrel
      have hs := hb.size
      obtain ⟨c0, c1, c2, c3⟩ := four (HBK.out.below hb HBK.out.lt)
      by_cases hlt : j < n
      · have hlt' : (j : Int) < (n : Int) := by omega
        have hjl : j < args.length := by rw [HN.out]; exact hlt
        obtain ⟨b, off, o, m, t, us, A', c', rfl, hbl, hei, g0, g1, g2, g3, u1, u2, u3, hX⟩ := HA1.out.at hjl
        have e0 := (hb.cell (p := ⟨b, off + j * 4, none⟩) hbl).trans g0
        have e1 := (hb.cell (p := ⟨b, off + j * 4 + 1, none⟩) hbl).trans g1
        have e2 := (hb.cell (p := ⟨b, off + j * 4 + 2, none⟩) hbl).trans g2
        have e3 := (hb.cell (p := ⟨b, off + j * 4 + 3, none⟩) hbl).trans g3
        obtain ⟨nu, hnu⟩ : ∃ x, us.length = x := ⟨_, rfl⟩
        rw [hnu] at e3 u1
        obtain ⟨q, hq⟩ : ∃ q, sml (.mk o m t us) = q := ⟨_, rfl⟩
        have HCL := Lib.hid (HIH.out o m t us A' nu c' wr q (HA1.out.lt hjl) (hX.below hb) hnu u1 u2 u3 hq)
        cases q
        · have HF : Hid (R = false) := Lib.hid (by rw [HR.out, all_not hei hq]; rfl)
          clear g0 g1 g2 g3 u1 u2 u3 hX hnu hei hq hjl hbl HS
          go_wp2_with (go_at_call 26; (with_reducible refine HCL.out.mono ?_); rintro e w3 ⟨rfl, hb3⟩; have HB3 := Lib.hid (HB.out.trans ((hb.trans (hb3.mono hs)).mono HB.out.size)); clear hb3 e0 e1 e2 e3 c0 c1 c2 c3)
          go_ret
          exact ⟨ret_b HF.out.symm, HB3.out⟩
        · have HS2 : Hid (∀ i e, i < j + 1 → args[i]? = some e → sml e = true) := Lib.hid (fun i e h he => by
            rcases Nat.lt_or_ge i j with h2 | h2
            · exact HS.out i e h2 he
            · obtain rfl : i = j := by omega
              rw [hei] at he
              rw [← Option.some.inj he]; exact hq)
          clear g0 g1 g2 g3 u1 u2 u3 hX hnu hei hq hjl hbl HS
          go_wp2_with (go_at_call 26; (with_reducible refine HCL.out.mono ?_); rintro e w3 ⟨rfl, hb3⟩; have HB3 := Lib.hid (hb.trans (hb3.mono hs)); clear hb3 e0 e1 e2 e3 c0 c1 c2 c3)
          go_roundw
          case rel => exact ⟨j + 1, by go_num, by omega, HB3.out, HS2⟩
          case measure => simp [RowKit.intOf]; omega
      · obtain rfl : j = n := by omega
        have hd : decide ((j : Int) < (j : Int)) = false := decide_eq_false (by omega)
        have HALL : Hid (args.all sml = true) := Lib.hid (all_yes (fun i e he => HS.out i e (by
          have := (List.getElem?_eq_some_iff.1 he).1
          rw [← HN.out]; exact this) he))
        have hle := cnts_le (l := args) (m := 120) (fun e he => sml_cnt (List.all_eq_true.1 HALL.out e he))
        obtain ⟨q, hq⟩ : ∃ q, cnt (.mk op num tx args) = q := ⟨_, rfl⟩
        have hq8 : j ≤ 8 → q ≤ 1000000 := fun h => by
          rw [← hq, cnt_mk]
          rw [HN.out] at hle
          have : j * 120 ≤ 8 * 120 := Nat.mul_le_mul_right _ h
          omega
        obtain ⟨v1, hv1⟩ : ∃ v, decide ((tx.size : Int) ≤ 300) = v := ⟨_, rfl⟩
        obtain ⟨v2, hv2⟩ : ∃ v, decide ((j : Int) ≤ 8) = v := ⟨_, rfl⟩
        obtain ⟨v3, hv3⟩ : ∃ v, decide ((q : Int) ≤ 120) = v := ⟨_, rfl⟩
        have HF : Hid (R = (v1 && v2 && v3)) := Lib.hid (by
          rw [HR.out, HALL.out, Bool.true_and, HN.out, hq, ← hv1, ← hv2, ← hv3]
          simp only [show ((tx.size : Int) ≤ 300) = (tx.size ≤ 300) by apply propext; omega, show ((j : Int) ≤ 8) = (j ≤ 8) by apply propext; omega, show ((q : Int) ≤ 120) = (q ≤ 120) by apply propext; omega])
        cases v1
        · clear hle hq hq8 hv2 hv3
          go_wp2_with fail
          go_ret
          exact ⟨ret_b HF.out.symm, HB.out.trans (hb.mono HB.out.size)⟩
        · cases v2
          · clear hle hq hq8 hv3
            go_wp2_with fail
            go_ret
            exact ⟨ret_b HF.out.symm, HB.out.trans (hb.mono HB.out.size)⟩
          · have h8 : j ≤ 8 := by have := of_decide_eq_true hv2; omega
            have HCL := Lib.hid (count_is hq A d j c wr (HA1.out.below hb) HN.out hc hm (hq8 h8))
            clear hle hq hq8
            cases v3
            all_goals
              go_wp2_with (go_at_call 68; (with_reducible refine HCL.out.mono ?_); rintro e w3 ⟨rfl, hb3⟩; have HB3 := Lib.hid (HB.out.trans ((hb.trans (hb3.mono hs)).mono HB.out.size)); clear hb3 c0 c1 c2 c3)
              go_ret
              exact ⟨ret_b HF.out.symm, HB3.out⟩
end Go.Proofs.YtpkmnefbofhjbaaGreat.Ck
