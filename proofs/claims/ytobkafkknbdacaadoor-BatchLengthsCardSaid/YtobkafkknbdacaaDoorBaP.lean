/- Walks: few records; the bytes of numbers. -/
import Derived.Test.YtobkafkknbdacaaDoorBaD
import Derived.Test.YtobkafkknbdacaaDoorFrU
namespace Go.Proofs.YtobkafkknbdacaaDoor.Va
open Go.RowKit

def shB (r : Rc) : Bool := decide (r.sa.size ≤ 200) && decide (r.sb.size ≤ 200)
/-- At most forty records with short numbers. -/
def fewB (l : List Rc) : Bool := (l.take 41).all shB && decide (l.length ≤ 40)
theorem take_drop_getD {l : List Rc} {k : Nat} (h : k < l.length) (h2 : k < 41) : (l.take 41).drop k = l.getD k rc0 :: (l.take 41).drop (k + 1) := by
  have hk : k < (l.take 41).length := by rw [List.length_take]; omega
  rw [List.drop_eq_getElem_cons hk, List.getElem_take, List.getD_eq_getElem?_getD, List.getElem?_eq_getElem h]
  rfl
theorem few_sz {l : List Rc} (h : fewB l = true) : l.length ≤ 40 ∧ ∀ r ∈ l, r.sa.size ≤ 200 ∧ r.sb.size ≤ 200 := by
  simp only [fewB, Bool.and_eq_true, decide_eq_true_eq] at h
  refine ⟨h.2, fun r hr => ?_⟩
  rw [List.take_of_length_le (by omega), List.all_eq_true] at h
  have := h.1 r hr
  simpa [shB] using this
set_option maxRecDepth 100000 in
set_option maxHeartbeats 8000000 in
theorem few_any {w : World} {A : Option Addr} {n c : Nat} {l : List Rc} (hA : RecR w A l) (hl : l.length = n) :
    Calls Tryd.prog 5 #[.slice A n c] w fun e w' => e = .returned (.bool (fewB l)) ∧ Below w.heap.size w w' := by
  have HA := Lib.hid hA; have HN := Lib.hid hl
  clear hA hl
  go_enter Tryd.func5, Tryd.ntmps5
  go_wp2_with fail
  go_loopw [3] (fun iv wr => ∃ k : Nat, iv = .int .i64 k ∧ k ≤ n ∧ k ≤ 41 ∧ Hid (fewB l = (((l.take 41).drop k).all shB && decide (n ≤ 40))) ∧ Hid (Below w.heap.size w wr)) (fun iv _ => n - (intOf iv).toNat)
  case atStart => exact ⟨0, rfl, by omega, by omega, Lib.hid (by unfold fewB; rw [HN.out, List.drop_zero]), Lib.hid (Below.refl _ _)⟩
  case round =>
    obtain ⟨k, rfl, hk, hk41, HR, HB⟩ := hrel
    by_cases hlt : k < n
    · have hlt' : (k : Int) < (n : Int) := by omega
      by_cases h41 : k < 41
      · have h41' : (k : Int) < 41 := by omega
        have hk0 : (0 : Int) ≤ (k : Int) := by omega
        have hkl : k < l.length := by rw [HN.out]; exact hlt
        obtain ⟨bk, off, rfl, hbk, hcs⟩ := (HA.out.below HB.out) k hkl
        have hr := HR.out
        rw [take_drop_getD hkl h41, List.all_cons] at hr
        obtain ⟨r, hp⟩ : ∃ r, l.getD k rc0 = r := ⟨_, rfl⟩
        rw [hp] at hcs hr
        obtain ⟨s0, s1, s2, sa, sb, s5, s6, s7, s8, b9, s10, b11⟩ := r
        have d3 := hcs 3 (by decide); have d4 := hcs 4 (by decide)
        simp [Rc.cells] at d3 d4
        simp only [shB] at hr
        clear hp hcs hbk hkl
        by_cases ha : sa.size ≤ 200
        · have ha1 : decide ((200 : Int) < (sa.size : Int)) = false := decide_eq_false (by omega)
          have ha2 : ¬ (200 : Int) < (sa.size : Int) := by omega
          by_cases hb : sb.size ≤ 200
          · have hb1 : decide ((200 : Int) < (sb.size : Int)) = false := decide_eq_false (by omega)
            have hb2 : ¬ (200 : Int) < (sb.size : Int) := by omega
            rw [decide_eq_true ha, decide_eq_true hb, Bool.and_self, Bool.true_and] at hr
            have HRN := Lib.hid hr
            clear hr ha hb
            go_wp2
            go_roundw
            case rel => exact ⟨k + 1, by go_num, by omega, by omega, HRN, HB⟩
            case measure => simp [intOf]; omega
          · have hb1 : decide ((200 : Int) < (sb.size : Int)) = true := decide_eq_true (by omega)
            have hb2 : (200 : Int) < (sb.size : Int) := by omega
            rw [decide_eq_true ha, decide_eq_false hb, Bool.and_false, Bool.false_and, Bool.false_and] at hr
            have HRN := Lib.hid hr
            clear hr ha hb
            go_wp2
            go_ret
            exact ⟨by rw [HRN.out]; rfl, HB.out⟩
        · have ha1 : decide ((200 : Int) < (sa.size : Int)) = true := decide_eq_true (by omega)
          have ha2 : (200 : Int) < (sa.size : Int) := by omega
          rw [decide_eq_false ha, Bool.false_and, Bool.false_and, Bool.false_and] at hr
          have HRN := Lib.hid hr
          clear hr ha
          go_wp2
          go_ret
          exact ⟨by rw [HRN.out]; rfl, HB.out⟩
      · have h41' : ¬ (k : Int) < 41 := by omega
        have hr := HR.out
        rw [List.drop_eq_nil_of_le (by rw [List.length_take]; omega), List.all_nil, Bool.true_and] at hr
        have HRN := Lib.hid hr
        have hd : decide ((n : Int) ≤ 40) = decide (n ≤ 40) := by congr 1; apply propext; omega
        have HD := Lib.hid hd
        clear hr hd
        go_wp2
        go_ret
        exact ⟨by rw [HRN.out]; first | rfl | (rw [← HD.out]; rfl), HB.out⟩
    · obtain rfl : k = n := by omega
      have hr := HR.out
      rw [List.drop_eq_nil_of_le (by rw [List.length_take, HN.out]; omega), List.all_nil, Bool.true_and] at hr
      have HRN := Lib.hid hr
      have hd : decide ((k : Int) ≤ 40) = decide (k ≤ 40) := by congr 1; apply propext; omega
      have HD := Lib.hid hd
      clear hr hd
      go_wp2
      go_ret
      exact ⟨by rw [HRN.out]; first | rfl | (rw [← HD.out]; rfl), HB.out⟩
/-- A slice of numbers that can be read. -/
structure Ints (w : World) (A : Option Addr) (n c : Nat) (zs : List Int) : Prop where
  has : Has w A n c (zs.map (Value.int .i64))
  ran : ∀ z ∈ zs, -9223372036854775808 ≤ z ∧ z ≤ 9223372036854775807
theorem Ints.len {w : World} {A : Option Addr} {n c : Nat} {l : List Int} (h : Ints w A n c l) : l.length = n := by
  have := h.has.1; simpa using this
theorem Ints.below {w w' : World} {A : Option Addr} {n c : Nat} {l : List Int} (h : Ints w A n c l) (hb : Below w.heap.size w w') : Ints w' A n c l := ⟨h.has.below hb, h.ran⟩
theorem Ints.at {w : World} {A : Option Addr} {n c : Nat} {l : List Int} (h : Ints w A n c l) {k : Nat} (hk : k < n) : ∃ b off x, A = some ⟨b, off, none⟩ ∧ l[k]? = some x ∧ w.cell? ⟨b, off + k, none⟩ = some (.int .i64 x) ∧ b < w.heap.size := by
  have hl := h.len
  obtain ⟨h1, h2, h3⟩ := h.has
  rcases h3 with ⟨_, h4, _⟩ | ⟨a, rfl, h3⟩
  · omega
  · obtain ⟨b, off, rfl, hb, hc⟩ := row_cells (w := w) (x := a) (n := n) (f := fun i => .int .i64 (l.getD i 0)) (fun i hi => by
      have := h3 i (.int .i64 (l.getD i 0)) (by simp [List.getD, List.getElem?_eq_getElem (show i < l.length by omega)])
      exact this.2) (by omega)
    refine ⟨b, off, l[k], rfl, by simp, ?_, hb⟩
    rw [hc k hk]
    simp [List.getD, List.getElem?_eq_getElem (show k < l.length by omega)]
/-- The bytes of numbers. -/
def listE : List Int → List Int
  | [] => []
  | z :: t => numE z ++ listE t
theorem listE_app (a b : List Int) : listE (a ++ b) = listE a ++ listE b := by
  induction a with
  | nil => rfl
  | cons x a ih => simp only [List.cons_append, listE, ih, List.append_assoc]
theorem listE_len : ∀ {l : List Int}, (∀ z ∈ l, -9223372036854775808 ≤ z ∧ z ≤ 9223372036854775807) → (listE l).length ≤ 10 * l.length
  | [], _ => by simp [listE]
  | z :: t, h => by
    have h1 := h z (List.mem_cons_self ..)
    have := numE_len h1.1 h1.2
    have := listE_len (l := t) (fun y hy => h y (List.mem_cons_of_mem _ hy))
    simp only [listE, List.length_append, List.length_cons]; omega
set_option maxRecDepth 100000 in
set_option maxHeartbeats 8000000 in
theorem putNumbers_any {B : Option Addr} {m d : Nat} {zs : List Int} {w : World} (hB : Ints w B m d zs) (hm : m ≤ 10000000) :
    Calls Tryd.prog 30 #[.slice B m d] w (Gives w w.heap.size (listE zs)) := by
  have hzl := hB.len
  have hle := listE_len hB.ran
  have HB := Lib.hid hB
  have HM := Lib.hid hm; have hmi : (m : Int) ≤ 10000000 := by omega
  have HLE := Lib.hid hle; have HZL := Lib.hid hzl
  clear hB hm hle hzl
  go_enter Tryd.func30, Tryd.ntmps30
  go_wp2_with fail
  go_loopw [3, 8] (fun v i wr => ∃ (k : Nat) (v' : Value), v' = v ∧ i = .int .i64 (k : Int) ∧ k ≤ m ∧ Hid (Own wr w.heap.size v' (listE (zs.take k))) ∧ Hid (Below w.heap.size w wr)) (fun _ i _ => m - (intOf i).toNat)
  case atStart => exact ⟨0, _, rfl, rfl, by omega, Lib.hid (by rw [List.take_zero]; exact own_none _ _), Lib.hid (Below.refl _ _)⟩
  case round =>
    obtain ⟨k, v, rfl, rfl, hk, HO, HBW⟩ := hrel
    by_cases hlt : k < m
    · obtain ⟨b, off, x, rfl, hx, hcell, hbl⟩ := HB.out.at hlt
      have hr := HB.out.ran x (List.mem_of_getElem? hx)
      have hlt' : (k : Int) < (m : Int) := by omega
      have hcell' := (HBW.out.cell (p := ⟨b, off + k, none⟩) hbl).trans hcell
      have hts : listE (zs.take (k + 1)) = listE (zs.take k) ++ numE x := by
        obtain ⟨q, e⟩ := List.getElem?_eq_some_iff.1 hx
        rw [← List.take_append_getElem q, listE_app, e]
        simp [listE]
      have hL : (listE (zs.take k)).length ≤ 1000000000 := by
        have := listE_len (l := zs.take k) (fun z hz => HB.out.ran z (List.mem_of_mem_take hz))
        rw [List.length_take] at this
        have := HM.out
        omega
      obtain ⟨A1, m1, c1, rfl, hm1, y1⟩ := HO.out.bytm
      have HP := Lib.hid (putNum_any x y1 (by rw [hm1]; exact hL) hr)
      have HTS := Lib.hid hts
      clear hL hr hts hm1 y1 hcell
      go_wp2_with (go_at_call 29; (with_reducible refine HP.out.mono ?_); rintro e w2 ⟨v2, rfl, ho2, hb2⟩; have HO2 := Lib.hid (show Own w2 w.heap.size v2 (listE (zs.take (k + 1))) from (by rw [HTS.out]; exact ⟨own_mono ho2.1 HBW.out.size, ho2.2⟩)); have HB2 := Lib.hid (HBW.out.trans (hb2.mono HBW.out.size)); clear ho2 hb2)
      go_roundw
      case rel => exact ⟨k + 1, v2, rfl, by go_num, by omega, HO2, HB2⟩
      case measure => simp [intOf]; omega
    · obtain rfl : k = m := by omega
      have hfin : zs.take k = zs := List.take_of_length_le (by rw [HZL.out]; exact Nat.le_refl _)
      have HF := Lib.hid hfin
      clear hfin
      go_wp2
      go_ret
      exact ⟨_, rfl, HF.out ▸ HO.out, HBW.out⟩
end Go.Proofs.YtobkafkknbdacaaDoor.Va
