/- Plain facts: texts of days are read back, and texts that are read are written again. Calls, from a world on. -/
import Derived.Test.YtigohhliblgdhaaDoorCalAwake
namespace Go.Proofs.YtigohhliblgdhaaDoor
open Go.RowKit

theorem lastD4 (n : Int) : ∃ a b c d, lastD n 4 = [a, b, c, d] := ⟨_, _, _, _, rfl⟩
theorem lastD2 (n : Int) : ∃ a b, lastD n 2 = [a, b] := ⟨_, _, rfl⟩
theorem par_datT (y m d : Int) (hy : 0 ≤ y) (hy2 : y ≤ 9999) (hm : 0 ≤ m) (hm2 : m ≤ 99) (hd : 0 ≤ d) (hd2 : d ≤ 99) :
    dtd (datT y m d) = true ∧ parY (datT y m d) = y ∧ parM (datT y m d) = m ∧ parD (datT y m d) = d := by
  have n1 := numL_lastD y 4
  have n2 := numL_lastD m 2
  have n3 := numL_lastD d 2
  have a1 := lastD_dgt y 4
  have a2 := lastD_dgt m 2
  have a3 := lastD_dgt d 2
  unfold datT parY parM parD
  obtain ⟨p, q, r, s, e1⟩ := lastD4 y
  obtain ⟨t, u, e2⟩ := lastD2 m
  obtain ⟨v, x, e3⟩ := lastD2 d
  rw [e1] at n1 a1
  rw [e2] at n2 a2
  rw [e3] at n3 a3
  rw [e1, e2, e3]
  simp at a1 a2 a3
  refine ⟨dtd_good rfl (fun i hi => ?_), ?_, ?_, ?_⟩
  · match i, hi with
    | 0, _ => simp [goodC, a1]
    | 1, _ => simp [goodC, a1]
    | 2, _ => simp [goodC, a1]
    | 3, _ => simp [goodC, a1]
    | 4, _ => simp [goodC]
    | 5, _ => simp [goodC, a2]
    | 6, _ => simp [goodC, a2]
    | 7, _ => simp [goodC]
    | 8, _ => simp [goodC, a3]
    | 9, _ => simp [goodC, a3]
  · show numL [p, q, r, s] = y
    rw [n1, show (10 : Int) ^ 4 = 10000 by decide]; omega
  · show numL [t, u] = m
    rw [n2, show (10 : Int) ^ 2 = 100 by decide]; omega
  · show numL [v, x] = d
    rw [n3, show (10 : Int) ^ 2 = 100 by decide]; omega
theorem day_of_date {n : Int} (h : 0 ≤ n) (h2 : n < 146097) : dayV (yrI n) (moI n) (dyI n) = n ∧ dayE (yrI n) (moI n) (dyI n) = 0 := by
  obtain ⟨a, b⟩ := date_spec n h h2
  obtain ⟨c, d⟩ := day_good a
  exact ⟨c.trans b, d⟩
theorem par_back {n : Int} (h : 0 ≤ n) (h2 : n < 146097) : parV (datT (yrI n) (moI n) (dyI n)) = n ∧ parE (datT (yrI n) (moI n) (dyI n)) = 0 := by
  obtain ⟨b1, b2, b3, b4, b5, b6⟩ := date_bounds h h2
  obtain ⟨p0, p1, p2, p3⟩ := par_datT (yrI n) (moI n) (dyI n) (by omega) (by omega) (by omega) (by omega) (by omega) (by omega)
  obtain ⟨q1, q2⟩ := par_yes p0
  obtain ⟨r1, r2⟩ := day_of_date h h2
  rw [q1, q2, p1, p2, p3]
  exact ⟨r1, r2⟩
theorem date_back {y m d : Int} (h : okD y m d = true) : dateV (dayI y m d) = .agg #[.int .i64 y, .int .i64 m, .int .i64 d] := by
  obtain ⟨a, b, c, e, f⟩ := date_uniq h rfl
  unfold dateV
  rw [if_pos ⟨a, b⟩, c, e, f]
theorem dayE_ok {y m d : Int} (h : dayE y m d = 0) : okD y m d = true := by
  unfold dayE at h
  split at h
  · assumption
  · cases h
theorem par_txt {l : List UInt8} (h : parE l = 0) : prT (parV l) = l := by
  have hd : dtd l = true := by
    cases e : dtd l
    · rw [(par_no e).2] at h; cases h
    · rfl
  obtain ⟨q1, q2⟩ := par_yes hd
  rw [q2] at h
  have hok := dayE_ok h
  obtain ⟨a, b, c, e, f⟩ := date_uniq hok rfl
  rw [q1, (day_good hok).1]
  unfold prT
  rw [if_pos ⟨a, b⟩, c, e, f]
  obtain ⟨s1, s2, s3⟩ := dtd_parts hd
  obtain ⟨c0, c1, c2, c3, c4, c5, c6, c7, c8, c9, rfl⟩ := ten (dtd_spec hd).1
  obtain ⟨_, _, _, _, h4, _, _, h7, _, _⟩ := dtd_ten hd
  have t1 := lastD_numL _ s1
  have t2 := lastD_numL _ s2
  have t3 := lastD_numL _ s3
  unfold datT parY parM parD
  simp only [List.take_succ_cons, List.take_zero, List.drop_succ_cons, List.drop_zero, List.length_cons, List.length_nil] at t1 t2 t3 ⊢
  rw [t1, t2, t3]
  have e4 : c4 = 45 := UInt8.toNat_inj.1 (by rw [h4]; rfl)
  have e7 : c7 = 45 := UInt8.toNat_inj.1 (by rw [h7]; rfl)
  rw [e4, e7]
  rfl

/-- A contract, read from a world on. -/
theorem since {P : Program} {f : FuncId} {args : Array Value} {v : Value} (h : ∀ w, Calls P f args w fun e w' => e = .returned v ∧ Below w.heap.size w w') {w0 w1 : World} (hb : Below w0.heap.size w0 w1) :
    Calls P f args w1 fun e w' => e = .returned v ∧ Below w0.heap.size w0 w' :=
  (h w1).mono fun _ _ ⟨he, hb1⟩ => ⟨he, hb.trans (hb1.mono hb.size)⟩
theorem sinceQ {P : Program} {f : FuncId} {args : Array Value} {v : Value} (h : ∀ w, Calls P f args w fun e w' => e = .returned v ∧ w = w') {w0 w1 : World} (hb : Below w0.heap.size w0 w1) :
    Calls P f args w1 fun e w' => e = .returned v ∧ Below w0.heap.size w0 w' :=
  (h w1).mono fun _ _ ⟨he, hw⟩ => ⟨he, by rw [← hw]; exact hb⟩
theorem sinceT {f : FuncId} {args : Array Value} {v : Value} (h : ∀ w, Tab w → Calls Tryd.prog f args w fun e w' => e = .returned v ∧ Below w.heap.size w w') {w0 : World} (ht : Tab w0) {w1 : World} (hb : Below w0.heap.size w0 w1) :
    Calls Tryd.prog f args w1 fun e w' => e = .returned v ∧ Below w0.heap.size w0 w' :=
  (h w1 (ht.below hb)).mono fun _ _ ⟨he, hb1⟩ => ⟨he, hb.trans (hb1.mono hb.size)⟩
end Go.Proofs.YtigohhliblgdhaaDoor
