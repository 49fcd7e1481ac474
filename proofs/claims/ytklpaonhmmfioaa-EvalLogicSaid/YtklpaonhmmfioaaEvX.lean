/- Walks: Number, Text and Holds, of the program and of the reference. -/
import Derived.Test.YtklpaonhmmfioaaEvW
namespace Go.Proofs.Ytklpaonhmmfioaa.Ck
open Go Go.Lib Go.RowKit Go.Proofs.Ytklpaonhmmfioaa

/-- The value of an expression as a number, as a text, and whether it holds: with 16 levels. -/
def numR (v : En) (e : Ex) : Option Int := if sortX 16 e = (1, 0) then numV v e else none
def txtR (v : En) (e : Ex) : ByteArray × Bool := if sortX 16 e = (2, 0) then (txtV v e, true) else (⟨#[]⟩, false)
def hldR (v : En) (e : Ex) : Bool := if sortX 16 e = (3, 0) then hldV v e else false
theorem sortQ_is {e : Ex} {z : Int} {b : Bool} (h : ((sortX 16 e).2 == 0 && (sortX 16 e).1 == z) = b) : (b = true → sortX 16 e = (z, 0)) ∧ (b = false → sortX 16 e ≠ (z, 0)) := by
  constructor
  · rintro rfl
    simp only [Bool.and_eq_true, beq_iff_eq] at h
    exact Prod.ext h.2 h.1
  · rintro rfl h2
    rw [h2] at h; simp at h
theorem evSmall_is {op num : Int} {tx : ByteArray} {args : List Ex} {b : Bool} (h : sml (.mk op num tx args) = b) (A : Option Addr) (d n c : Nat) (w : World) (hA : XA w d A args) (hn : args.length = n) (hc : n ≤ c) (hm : c ≤ maxLen) (ht : tx.size ≤ maxLen) :
    Calls Try.prog 10 #[.agg #[.int .i64 op, .int .i64 num, .string tx, .slice A n c]] w fun e w' => e = .returned (.bool b) ∧ Below w.heap.size w w' := by
  subst h; exact small_any d op num tx args A n c w hA hn hc hm ht
set_option maxRecDepth 100000 in
set_option maxHeartbeats 16000000 in
theorem evNumber_is {v : En} {op num : Int} {tx : ByteArray} {args : List Ex} {x : Int} {b : Bool} (h : OV (numR v (.mk op num tx args)) x b) (A : Option Addr) (d n c : Nat) (w : World) (hA : XA w d A args) (hn : args.length = n) (hc : n ≤ c) (hm : c ≤ maxLen) (ht : tx.size ≤ maxLen) :
    Calls Try.prog 12 #[.agg #[.int .i64 op, .int .i64 num, .string tx, .slice A n c], .agg #[.int .i64 v.a0, .int .i64 v.a1, .int .i64 v.a2, .int .i64 v.a3, .int .i64 v.a4, .int .i64 v.a5, .string v.zn, .string v.bn, .bool v.fm]] w fun e w' => e = .returned (.tuple #[.int .i64 x, .bool b]) ∧ Below w.heap.size w w' := by
  have hst := HSt.new w v #[.int .i64 op, .int .i64 num, .string tx, .slice A n c]
  obtain ⟨k0, k1, k2, k3⟩ := four hst.2.2.1
  obtain ⟨d0, d1, d2, d3, d4, d5, d6, d7, d8⟩ := nine hst.2.2.2
  have HS := Lib.hid hst
  obtain ⟨q, hq⟩ : ∃ q, ((sortX 16 (.mk op num tx args)).2 == 0 && (sortX 16 (.mk op num tx args)).1 == 1) = q := ⟨_, rfl⟩
  have HIS := Lib.hid (fun W (h : HSt w w.heap.size v #[.int .i64 op, .int .i64 num, .string tx, .slice A n c] W) => is_is rfl 1 q hq A d n c W (hA.below h.1) hn hc hm ht)
  obtain ⟨h1, h2⟩ := sortQ_is hq
  clear hst hq
  cases q
  · have hs := h2 rfl
    unfold numR at h; rw [if_neg hs] at h
    obtain ⟨rfl, rfl⟩ : x = 0 ∧ b = false := ⟨h.1, h.2⟩
    clear h1 h2 hs h hA hn
    go_enter Try.func12, Try.ntmps12
    go_wp2_with (go_at_call 24; (with_reducible refine (HIS.out _ HS.out).mono ?_); rintro e w1 ⟨rfl, hb1⟩; have HS1 := Lib.hid (HS.out.keep hb1); clear hb1 k0 k1 k2 k3 d0 d1 d2 d3 d4 d5 d6 d7 d8)
    go_ret2
    exact ⟨rfl, HS1.out.1⟩
  · have hs := h1 rfl
    unfold numR at h; rw [if_pos hs] at h
    have HV := Lib.hid (fun W (h' : HSt w w.heap.size v #[.int .i64 op, .int .i64 num, .string tx, .slice A n c] W) => number_any v 16 op num tx args A d n c W x b hs (hA.below h'.1) hn hc hm ht h)
    clear h1 h2 hs h hA hn
    go_enter Try.func12, Try.ntmps12
    go_wp2_with (first
      | (go_at_call 24; (with_reducible refine (HIS.out _ HS.out).mono ?_); rintro e w1 ⟨rfl, hb1⟩; have HS1 := Lib.hid (HS.out.keep hb1); clear hb1 k0 k1 k2 k3 d0 d1 d2 d3 d4 d5 d6 d7 d8; obtain ⟨k0, k1, k2, k3⟩ := four HS1.out.2.2.1; obtain ⟨d0, d1, d2, d3, d4, d5, d6, d7, d8⟩ := nine HS1.out.2.2.2)
      | (go_at_call 25; (with_reducible refine (HV.out _ HS1.out).mono ?_); rintro e w2 ⟨rfl, hb2⟩; have HS2 := Lib.hid (HS1.out.keep hb2); clear hb2 k0 k1 k2 k3 d0 d1 d2 d3 d4 d5 d6 d7 d8))
    go_ret2
    exact ⟨rfl, HS2.out.1⟩
set_option maxRecDepth 100000 in
set_option maxHeartbeats 16000000 in
theorem evText_is {v : En} {op num : Int} {tx : ByteArray} {args : List Ex} {x : ByteArray} {b : Bool} (h : txtR v (.mk op num tx args) = (x, b)) (A : Option Addr) (d n c : Nat) (w : World) (hA : XA w d A args) (hn : args.length = n) (hc : n ≤ c) (hm : c ≤ maxLen) (ht : tx.size ≤ maxLen) :
    Calls Try.prog 14 #[.agg #[.int .i64 op, .int .i64 num, .string tx, .slice A n c], .agg #[.int .i64 v.a0, .int .i64 v.a1, .int .i64 v.a2, .int .i64 v.a3, .int .i64 v.a4, .int .i64 v.a5, .string v.zn, .string v.bn, .bool v.fm]] w fun e w' => e = .returned (.tuple #[.string x, .bool b]) ∧ Below w.heap.size w w' := by
  have hst := HSt.new w v #[.int .i64 op, .int .i64 num, .string tx, .slice A n c]
  obtain ⟨k0, k1, k2, k3⟩ := four hst.2.2.1
  obtain ⟨d0, d1, d2, d3, d4, d5, d6, d7, d8⟩ := nine hst.2.2.2
  have HS := Lib.hid hst
  obtain ⟨q, hq⟩ : ∃ q, ((sortX 16 (.mk op num tx args)).2 == 0 && (sortX 16 (.mk op num tx args)).1 == 2) = q := ⟨_, rfl⟩
  have HIS := Lib.hid (fun W (h : HSt w w.heap.size v #[.int .i64 op, .int .i64 num, .string tx, .slice A n c] W) => is_is rfl 2 q hq A d n c W (hA.below h.1) hn hc hm ht)
  obtain ⟨h1, h2⟩ := sortQ_is hq
  clear hst hq
  cases q
  · have hs := h2 rfl
    unfold txtR at h; rw [if_neg hs] at h
    obtain ⟨rfl, rfl⟩ := Prod.mk.inj h
    clear h1 h2 hs hA hn
    go_enter Try.func14, Try.ntmps14
    go_wp2_with (go_at_call 24; (with_reducible refine (HIS.out _ HS.out).mono ?_); rintro e w1 ⟨rfl, hb1⟩; have HS1 := Lib.hid (HS.out.keep hb1); clear hb1 k0 k1 k2 k3 d0 d1 d2 d3 d4 d5 d6 d7 d8)
    go_ret2
    exact ⟨rfl, HS1.out.1⟩
  · have hs := h1 rfl
    unfold txtR at h; rw [if_pos hs] at h
    obtain ⟨rfl, rfl⟩ := Prod.mk.inj h
    have HV := Lib.hid (fun W (h' : HSt w w.heap.size v #[.int .i64 op, .int .i64 num, .string tx, .slice A n c] W) => text_is (v := v) (op := op) (num := num) (tx := tx) (args := args) rfl A n c W)
    clear h1 h2 hs hA hn
    go_enter Try.func14, Try.ntmps14
    go_wp2_with (first
      | (go_at_call 24; (with_reducible refine (HIS.out _ HS.out).mono ?_); rintro e w1 ⟨rfl, hb1⟩; have HS1 := Lib.hid (HS.out.keep hb1); clear hb1 k0 k1 k2 k3 d0 d1 d2 d3 d4 d5 d6 d7 d8; obtain ⟨k0, k1, k2, k3⟩ := four HS1.out.2.2.1; obtain ⟨d0, d1, d2, d3, d4, d5, d6, d7, d8⟩ := nine HS1.out.2.2.2)
      | (go_at_call 28; (with_reducible refine (HV.out _ HS1.out).mono ?_); rintro e w2 ⟨rfl, hb2⟩; have HS2 := Lib.hid (HS1.out.keep hb2); clear hb2 k0 k1 k2 k3 d0 d1 d2 d3 d4 d5 d6 d7 d8))
    go_ret2
    exact ⟨rfl, HS2.out.1⟩
set_option maxRecDepth 100000 in
set_option maxHeartbeats 16000000 in
theorem evHolds_is {v : En} {op num : Int} {tx : ByteArray} {args : List Ex} {b : Bool} (h : hldR v (.mk op num tx args) = b) (A : Option Addr) (d n c : Nat) (w : World) (hA : XA w d A args) (hn : args.length = n) (hc : n ≤ c) (hm : c ≤ maxLen) (ht : tx.size ≤ maxLen) :
    Calls Try.prog 16 #[.agg #[.int .i64 op, .int .i64 num, .string tx, .slice A n c], .agg #[.int .i64 v.a0, .int .i64 v.a1, .int .i64 v.a2, .int .i64 v.a3, .int .i64 v.a4, .int .i64 v.a5, .string v.zn, .string v.bn, .bool v.fm]] w fun e w' => e = .returned (.bool b) ∧ Below w.heap.size w w' := by
  have hst := HSt.new w v #[.int .i64 op, .int .i64 num, .string tx, .slice A n c]
  obtain ⟨k0, k1, k2, k3⟩ := four hst.2.2.1
  obtain ⟨d0, d1, d2, d3, d4, d5, d6, d7, d8⟩ := nine hst.2.2.2
  have HS := Lib.hid hst
  obtain ⟨q, hq⟩ : ∃ q, ((sortX 16 (.mk op num tx args)).2 == 0 && (sortX 16 (.mk op num tx args)).1 == 3) = q := ⟨_, rfl⟩
  have HIS := Lib.hid (fun W (h : HSt w w.heap.size v #[.int .i64 op, .int .i64 num, .string tx, .slice A n c] W) => is_is rfl 3 q hq A d n c W (hA.below h.1) hn hc hm ht)
  obtain ⟨h1, h2⟩ := sortQ_is hq
  clear hst hq
  cases q
  · have hs := h2 rfl
    unfold hldR at h; rw [if_neg hs] at h
    subst h
    clear h1 h2 hs hA hn
    go_enter Try.func16, Try.ntmps16
    go_wp2_with (go_at_call 24; (with_reducible refine (HIS.out _ HS.out).mono ?_); rintro e w1 ⟨rfl, hb1⟩; have HS1 := Lib.hid (HS.out.keep hb1); clear hb1 k0 k1 k2 k3 d0 d1 d2 d3 d4 d5 d6 d7 d8)
    go_ret
    exact ⟨rfl, HS1.out.1⟩
  · have hs := h1 rfl
    unfold hldR at h; rw [if_pos hs] at h
    have HV := Lib.hid (fun W (h' : HSt w w.heap.size v #[.int .i64 op, .int .i64 num, .string tx, .slice A n c] W) => holds_any v 16 (Nat.le_refl _) op num tx args A d n c W b hs (hA.below h'.1) hn hc hm ht h)
    clear h1 h2 hs h hA hn
    go_enter Try.func16, Try.ntmps16
    go_wp2_with (first
      | (go_at_call 24; (with_reducible refine (HIS.out _ HS.out).mono ?_); rintro e w1 ⟨rfl, hb1⟩; have HS1 := Lib.hid (HS.out.keep hb1); clear hb1 k0 k1 k2 k3 d0 d1 d2 d3 d4 d5 d6 d7 d8; obtain ⟨k0, k1, k2, k3⟩ := four HS1.out.2.2.1; obtain ⟨d0, d1, d2, d3, d4, d5, d6, d7, d8⟩ := nine HS1.out.2.2.2)
      | (go_at_call 30; (with_reducible refine (HV.out _ HS1.out).mono ?_); rintro e w2 ⟨rfl, hb2⟩; have HS2 := Lib.hid (HS1.out.keep hb2); clear hb2 k0 k1 k2 k3 d0 d1 d2 d3 d4 d5 d6 d7 d8))
    go_ret
    exact ⟨rfl, HS2.out.1⟩
set_option maxRecDepth 100000 in
set_option maxHeartbeats 16000000 in
theorem refNumberT_is {v : En} {op num : Int} {tx : ByteArray} {args : List Ex} {x : Int} {b : Bool} (h : OV (numR v (.mk op num tx args)) x b) (A : Option Addr) (d n c : Nat) (w : World) (hA : XA w d A args) (hn : args.length = n) (hc : n ≤ c) (hm : c ≤ maxLen) (ht : tx.size ≤ maxLen) :
    Calls Try.prog 13 #[.agg #[.int .i64 op, .int .i64 num, .string tx, .slice A n c], .agg #[.int .i64 v.a0, .int .i64 v.a1, .int .i64 v.a2, .int .i64 v.a3, .int .i64 v.a4, .int .i64 v.a5, .string v.zn, .string v.bn, .bool v.fm]] w fun e w' => e = .returned (.tuple #[.int .i64 x, .bool b]) ∧ Below w.heap.size w w' := by
  have hst := HSt.new w v #[.int .i64 op, .int .i64 num, .string tx, .slice A n c]
  obtain ⟨k0, k1, k2, k3⟩ := four hst.2.2.1
  obtain ⟨d0, d1, d2, d3, d4, d5, d6, d7, d8⟩ := nine hst.2.2.2
  have HS := Lib.hid hst
  obtain ⟨sx, hsx⟩ : ∃ x, sortX 16 (.mk op num tx args) = x := ⟨_, rfl⟩
  obtain ⟨s, er⟩ := sx
  have HIS := Lib.hid (fun W (h : HSt w w.heap.size v #[.int .i64 op, .int .i64 num, .string tx, .slice A n c] W) => refIs hsx A d n c W (hA.below h.1) hn hc hm ht)
  clear hst
  by_cases h0 : er = 0
  · subst h0
    by_cases h1 : s = 1
    · subst h1
      have hs := hsx
      unfold numR at h; rw [if_pos hs] at h
      have HV := Lib.hid (fun W (h' : HSt w w.heap.size v #[.int .i64 op, .int .i64 num, .string tx, .slice A n c] W) => refNumber_any v 16 op num tx args A d n c W x b hs (hA.below h'.1) hn hc hm ht h)
      clear hs h hA hn hsx
      go_enter Try.func13, Try.ntmps13
      go_wp2_with (first
        | (go_at_call 26; (with_reducible refine (HIS.out _ HS.out).mono ?_); rintro e w1 ⟨rfl, hb1⟩; have HS1 := Lib.hid (HS.out.keep hb1); clear hb1 k0 k1 k2 k3 d0 d1 d2 d3 d4 d5 d6 d7 d8; obtain ⟨k0, k1, k2, k3⟩ := four HS1.out.2.2.1; obtain ⟨d0, d1, d2, d3, d4, d5, d6, d7, d8⟩ := nine HS1.out.2.2.2)
        | (go_at_call 27; (with_reducible refine (HV.out _ HS1.out).mono ?_); rintro e w2 ⟨rfl, hb2⟩; have HS2 := Lib.hid (HS1.out.keep hb2); clear hb2 k0 k1 k2 k3 d0 d1 d2 d3 d4 d5 d6 d7 d8))
      go_ret2
      exact ⟨rfl, HS2.out.1⟩
    · have hs : sortX 16 (.mk op num tx args) ≠ (1, 0) := by rw [hsx]; intro h; exact h1 (congrArg Prod.fst h)
      unfold numR at h; rw [if_neg hs] at h
      obtain ⟨rfl, rfl⟩ : x = 0 ∧ b = false := ⟨h.1, h.2⟩
      have e1 : (s == 1) = false := by simpa using h1
      have e2 : (s != 1) = true := by simpa using h1
      clear hs h hA hn hsx h1
      go_enter Try.func13, Try.ntmps13
      go_wp2_with (go_at_call 26; (with_reducible refine (HIS.out _ HS.out).mono ?_); rintro e w1 ⟨rfl, hb1⟩; have HS1 := Lib.hid (HS.out.keep hb1); clear hb1 k0 k1 k2 k3 d0 d1 d2 d3 d4 d5 d6 d7 d8)
      go_ret2
      exact ⟨rfl, HS1.out.1⟩
  · have hs : sortX 16 (.mk op num tx args) ≠ (1, 0) := by rw [hsx]; intro h; exact h0 (congrArg Prod.snd h)
    unfold numR at h; rw [if_neg hs] at h
    obtain ⟨rfl, rfl⟩ : x = 0 ∧ b = false := ⟨h.1, h.2⟩
    have e1 : (er == 0) = false := by simpa using h0
    have e2 : (er != 0) = true := by simpa using h0
    clear hs h hA hn hsx h0
    go_enter Try.func13, Try.ntmps13
    go_wp2_with (go_at_call 26; (with_reducible refine (HIS.out _ HS.out).mono ?_); rintro e w1 ⟨rfl, hb1⟩; have HS1 := Lib.hid (HS.out.keep hb1); clear hb1 k0 k1 k2 k3 d0 d1 d2 d3 d4 d5 d6 d7 d8)
    go_ret2
    exact ⟨rfl, HS1.out.1⟩
set_option maxRecDepth 100000 in
set_option maxHeartbeats 16000000 in
theorem refTextT_is {v : En} {op num : Int} {tx : ByteArray} {args : List Ex} {x : ByteArray} {b : Bool} (h : txtR v (.mk op num tx args) = (x, b)) (A : Option Addr) (d n c : Nat) (w : World) (hA : XA w d A args) (hn : args.length = n) (hc : n ≤ c) (hm : c ≤ maxLen) (ht : tx.size ≤ maxLen) :
    Calls Try.prog 15 #[.agg #[.int .i64 op, .int .i64 num, .string tx, .slice A n c], .agg #[.int .i64 v.a0, .int .i64 v.a1, .int .i64 v.a2, .int .i64 v.a3, .int .i64 v.a4, .int .i64 v.a5, .string v.zn, .string v.bn, .bool v.fm]] w fun e w' => e = .returned (.tuple #[.string x, .bool b]) ∧ Below w.heap.size w w' := by
  have hst := HSt.new w v #[.int .i64 op, .int .i64 num, .string tx, .slice A n c]
  obtain ⟨k0, k1, k2, k3⟩ := four hst.2.2.1
  obtain ⟨d0, d1, d2, d3, d4, d5, d6, d7, d8⟩ := nine hst.2.2.2
  have HS := Lib.hid hst
  obtain ⟨sx, hsx⟩ : ∃ x, sortX 16 (.mk op num tx args) = x := ⟨_, rfl⟩
  obtain ⟨s, er⟩ := sx
  have HIS := Lib.hid (fun W (h : HSt w w.heap.size v #[.int .i64 op, .int .i64 num, .string tx, .slice A n c] W) => refIs hsx A d n c W (hA.below h.1) hn hc hm ht)
  clear hst
  by_cases h0 : er = 0
  · subst h0
    by_cases h1 : s = 2
    · subst h1
      have hs := hsx
      unfold txtR at h; rw [if_pos hs] at h
      obtain ⟨rfl, rfl⟩ := Prod.mk.inj h
      have HV := Lib.hid (fun W (h' : HSt w w.heap.size v #[.int .i64 op, .int .i64 num, .string tx, .slice A n c] W) => refText_is (v := v) (op := op) (num := num) (tx := tx) (args := args) rfl A n c W)
      clear hs hA hn hsx
      go_enter Try.func15, Try.ntmps15
      go_wp2_with (first
        | (go_at_call 26; (with_reducible refine (HIS.out _ HS.out).mono ?_); rintro e w1 ⟨rfl, hb1⟩; have HS1 := Lib.hid (HS.out.keep hb1); clear hb1 k0 k1 k2 k3 d0 d1 d2 d3 d4 d5 d6 d7 d8; obtain ⟨k0, k1, k2, k3⟩ := four HS1.out.2.2.1; obtain ⟨d0, d1, d2, d3, d4, d5, d6, d7, d8⟩ := nine HS1.out.2.2.2)
        | (go_at_call 29; (with_reducible refine (HV.out _ HS1.out).mono ?_); rintro e w2 ⟨rfl, hb2⟩; have HS2 := Lib.hid (HS1.out.keep hb2); clear hb2 k0 k1 k2 k3 d0 d1 d2 d3 d4 d5 d6 d7 d8))
      go_ret2
      exact ⟨rfl, HS2.out.1⟩
    · have hs : sortX 16 (.mk op num tx args) ≠ (2, 0) := by rw [hsx]; intro h; exact h1 (congrArg Prod.fst h)
      unfold txtR at h; rw [if_neg hs] at h
      obtain ⟨rfl, rfl⟩ := Prod.mk.inj h
      have e1 : (s == 2) = false := by simpa using h1
      have e2 : (s != 2) = true := by simpa using h1
      clear hs hA hn hsx h1
      go_enter Try.func15, Try.ntmps15
      go_wp2_with (go_at_call 26; (with_reducible refine (HIS.out _ HS.out).mono ?_); rintro e w1 ⟨rfl, hb1⟩; have HS1 := Lib.hid (HS.out.keep hb1); clear hb1 k0 k1 k2 k3 d0 d1 d2 d3 d4 d5 d6 d7 d8)
      go_ret2
      exact ⟨rfl, HS1.out.1⟩
  · have hs : sortX 16 (.mk op num tx args) ≠ (2, 0) := by rw [hsx]; intro h; exact h0 (congrArg Prod.snd h)
    unfold txtR at h; rw [if_neg hs] at h
    obtain ⟨rfl, rfl⟩ := Prod.mk.inj h
    have e1 : (er == 0) = false := by simpa using h0
    have e2 : (er != 0) = true := by simpa using h0
    clear hs hA hn hsx h0
    go_enter Try.func15, Try.ntmps15
    go_wp2_with (go_at_call 26; (with_reducible refine (HIS.out _ HS.out).mono ?_); rintro e w1 ⟨rfl, hb1⟩; have HS1 := Lib.hid (HS.out.keep hb1); clear hb1 k0 k1 k2 k3 d0 d1 d2 d3 d4 d5 d6 d7 d8)
    go_ret2
    exact ⟨rfl, HS1.out.1⟩
set_option maxRecDepth 100000 in
set_option maxHeartbeats 16000000 in
theorem refHoldsT_is {v : En} {op num : Int} {tx : ByteArray} {args : List Ex} {b : Bool} (h : hldR v (.mk op num tx args) = b) (A : Option Addr) (d n c : Nat) (w : World) (hA : XA w d A args) (hn : args.length = n) (hc : n ≤ c) (hm : c ≤ maxLen) (ht : tx.size ≤ maxLen) :
    Calls Try.prog 17 #[.agg #[.int .i64 op, .int .i64 num, .string tx, .slice A n c], .agg #[.int .i64 v.a0, .int .i64 v.a1, .int .i64 v.a2, .int .i64 v.a3, .int .i64 v.a4, .int .i64 v.a5, .string v.zn, .string v.bn, .bool v.fm]] w fun e w' => e = .returned (.bool b) ∧ Below w.heap.size w w' := by
  have hst := HSt.new w v #[.int .i64 op, .int .i64 num, .string tx, .slice A n c]
  obtain ⟨k0, k1, k2, k3⟩ := four hst.2.2.1
  obtain ⟨d0, d1, d2, d3, d4, d5, d6, d7, d8⟩ := nine hst.2.2.2
  have HS := Lib.hid hst
  obtain ⟨sx, hsx⟩ : ∃ x, sortX 16 (.mk op num tx args) = x := ⟨_, rfl⟩
  obtain ⟨s, er⟩ := sx
  have HIS := Lib.hid (fun W (h : HSt w w.heap.size v #[.int .i64 op, .int .i64 num, .string tx, .slice A n c] W) => refIs hsx A d n c W (hA.below h.1) hn hc hm ht)
  clear hst
  by_cases h0 : er = 0
  · subst h0
    by_cases h1 : s = 3
    · subst h1
      have hs := hsx
      unfold hldR at h; rw [if_pos hs] at h
      have HV := Lib.hid (fun W (h' : HSt w w.heap.size v #[.int .i64 op, .int .i64 num, .string tx, .slice A n c] W) => refHolds_any v 16 (Nat.le_refl _) op num tx args A d n c W b hs (hA.below h'.1) hn hc hm ht h)
      clear hs h hA hn hsx
      go_enter Try.func17, Try.ntmps17
      go_wp2_with (first
        | (go_at_call 26; (with_reducible refine (HIS.out _ HS.out).mono ?_); rintro e w1 ⟨rfl, hb1⟩; have HS1 := Lib.hid (HS.out.keep hb1); clear hb1 k0 k1 k2 k3 d0 d1 d2 d3 d4 d5 d6 d7 d8; obtain ⟨k0, k1, k2, k3⟩ := four HS1.out.2.2.1; obtain ⟨d0, d1, d2, d3, d4, d5, d6, d7, d8⟩ := nine HS1.out.2.2.2)
        | (go_at_call 31; (with_reducible refine (HV.out _ HS1.out).mono ?_); rintro e w2 ⟨rfl, hb2⟩; have HS2 := Lib.hid (HS1.out.keep hb2); clear hb2 k0 k1 k2 k3 d0 d1 d2 d3 d4 d5 d6 d7 d8))
      go_ret
      exact ⟨rfl, HS2.out.1⟩
    · have hs : sortX 16 (.mk op num tx args) ≠ (3, 0) := by rw [hsx]; intro h; exact h1 (congrArg Prod.fst h)
      unfold hldR at h; rw [if_neg hs] at h
      subst h
      have e1 : (s == 3) = false := by simpa using h1
      have e2 : (s != 3) = true := by simpa using h1
      clear hs hA hn hsx h1
      go_enter Try.func17, Try.ntmps17
      go_wp2_with (go_at_call 26; (with_reducible refine (HIS.out _ HS.out).mono ?_); rintro e w1 ⟨rfl, hb1⟩; have HS1 := Lib.hid (HS.out.keep hb1); clear hb1 k0 k1 k2 k3 d0 d1 d2 d3 d4 d5 d6 d7 d8)
      go_ret
      exact ⟨rfl, HS1.out.1⟩
  · have hs : sortX 16 (.mk op num tx args) ≠ (3, 0) := by rw [hsx]; intro h; exact h0 (congrArg Prod.snd h)
    unfold hldR at h; rw [if_neg hs] at h
    subst h
    have e1 : (er == 0) = false := by simpa using h0
    have e2 : (er != 0) = true := by simpa using h0
    clear hs hA hn hsx h0
    go_enter Try.func17, Try.ntmps17
    go_wp2_with (go_at_call 26; (with_reducible refine (HIS.out _ HS.out).mono ?_); rintro e w1 ⟨rfl, hb1⟩; have HS1 := Lib.hid (HS.out.keep hb1); clear hb1 k0 k1 k2 k3 d0 d1 d2 d3 d4 d5 d6 d7 d8)
    go_ret
    exact ⟨rfl, HS1.out.1⟩
end Go.Proofs.Ytklpaonhmmfioaa.Ck
