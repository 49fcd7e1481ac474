/- Walks: the cursor's token. -/
import Derived.Test.YtkdimbpmgngajaaDoorLxE
namespace Go.Proofs.YtkdimbpmgngajaaDoor.Lx
open Go Go.Lib Go.RowKit Go.Proofs.YtkdimbpmgngajaaDoor

/-- A token in block g. -/
def TkB (w : World) (g : Nat) (k n p : Int) (x : ByteArray) : Prop := w.heap[g]? = some (.cells #[.int .i64 k, .int .i64 n, .int .i64 p, .string x] 30 (0, 0))
section
variable {w w' : World} {g : Nat} {k n p : Int} {x : ByteArray}
theorem TkB.lt (h : TkB w g k n p x) : g < w.heap.size := (Array.getElem?_eq_some_iff.1 h).1
theorem TkB.cells (h : TkB w g k n p x) : (w.cell? ⟨g, 0, none⟩ = some (.int .i64 k) ∧ w.cell? ⟨g, 1, none⟩ = some (.int .i64 n) ∧ w.cell? ⟨g, 2, none⟩ = some (.int .i64 p) ∧ w.cell? ⟨g, 3, none⟩ = some (.string x)) ∧ w.frozen? ⟨g, 0, none⟩ = false ∧ w.frozen? ⟨g, 1, none⟩ = false ∧ w.frozen? ⟨g, 2, none⟩ = false ∧ w.frozen? ⟨g, 3, none⟩ = false := by
  unfold TkB at h
  simp [World.cell?, World.frozen?, h]
theorem TkB.keep (h : TkB w g k n p x) (hb : w'.heap[g]? = w.heap[g]?) : TkB w' g k n p x := hb.trans h
theorem TkB.far {g' : Nat} (h : TkB w g k n p x) (hb : w.grownBy w' (some g')) (hne : g ≠ g') : TkB w' g k n p x := h.keep (hb.block g h.lt (fun e => hne (Option.some.inj e)))
theorem TkB.below (h : TkB w g k n p x) (hb : Below w.heap.size w w') : TkB w' g k n p x := h.keep (hb.block g h.lt)
theorem TkB.new (w : World) (k n p : Int) (x : ByteArray) : TkB (w.alloc (.cells #[.int .i64 k, .int .i64 n, .int .i64 p, .string x] 30)) w.heap.size k n p x := heap_alloc_new w _
theorem TkB.set0 (h : TkB w g k n p x) (k' : Int) : TkB (w.setCell ⟨g, 0, none⟩ (.int .i64 k')) g k' n p x := by
  unfold TkB at h ⊢; simp [World.setCell, Array.getElem?_modify, h]
theorem TkB.set1 (h : TkB w g k n p x) (n' : Int) : TkB (w.setCell ⟨g, 1, none⟩ (.int .i64 n')) g k n' p x := by
  unfold TkB at h ⊢; simp [World.setCell, Array.getElem?_modify, h]
theorem TkB.set3 (h : TkB w g k n p x) (x' : ByteArray) : TkB (w.setCell ⟨g, 3, none⟩ (.string x')) g k n p x' := by
  unfold TkB at h ⊢; simp [World.setCell, Array.getElem?_modify, h]
end
def tag (k : Nat) : Except Nat (Wd × Wd) → Except Nat (Nat × Wd × Wd)
  | .error e => .error e
  | .ok (x, r) => .ok (k, x, r)
theorem tok_w {b : UInt8} {t : Wd} (h : lowB b = true) : tok (b :: t) = tag 1 (wrdT (b :: t)) := by
  rw [tok, if_pos h]; unfold wrdT
  split <;> rfl
theorem tok_d {b : UInt8} {t : Wd} (h : lowB b = false) (h2 : digB b = true) : tok (b :: t) = tag 2 (numT (b :: t)) := by
  rw [tok, if_neg (by rw [h]; decide), if_pos h2]; unfold numT
  split
  · rfl
  · split <;> rfl
theorem tok_q {t : Wd} : tok (34 :: t) = tag 3 (qotT t) := by
  rw [tok, if_neg (by decide), if_neg (by decide), if_pos (by decide)]; unfold qotT
  cases h : qut (List.takeWhile txtB t) (List.dropWhile txtB t) with
  | error e => rfl
  | ok y =>
    obtain ⟨k, x, r⟩ := y
    obtain ⟨rfl, -⟩ := qut_ok h
    rfl
theorem tok_s {b : UInt8} {t : Wd} (h : lowB b = false) (h2 : digB b = false) (h3 : (b == 34) = false) : tok (b :: t) = tag 4 (symT (b :: t)) := by
  rw [tok, if_neg (by rw [h]; decide), if_neg (by rw [h2]; decide), if_neg (by rw [h3]; decide)]; unfold symT
  cases sym (b :: t) with
  | none => rfl
  | some y => rfl
def numV (k : Nat) (x : Wd) : Nat := if k = 2 then valD x else 0
/-- What token leaves, from where blanks are skipped. -/
def TokOut (w : World) (g : Nat) (s : ByteArray) (r1 : Wd) (e : Ending) (w' : World) : Prop := match r1 with
  | [] => e = .returned (.agg #[.int .i64 0, .int .i64 0, .int .i64 s.size, .string ⟨#[]⟩]) ∧ CoR w w' g s []
  | b :: t => ∃ p : Nat, p + (t.length + 1) = s.size ∧ match tok (b :: t) with
    | .error n => e = .panicked (fx p n) ∧ w.grownBy w' (some g)
    | .ok (k, x, r2) => ∃ X : ByteArray, e = .returned (.agg #[.int .i64 k, .int .i64 (numV k x), .int .i64 p, .string X]) ∧ X.data.toList = x ∧ X.size ≤ maxLen ∧ CoR w w' g s r2
theorem decFrom_val : ∀ (l : Wd) (acc : Nat), (∀ b ∈ l, digB b = true) → Lib.decFrom acc l = some (l.foldl (fun n b => 10 * n + (b.toNat - 48)) acc)
  | [], _, _ => rfl
  | b :: l, acc, h => by
    have hb := h b (List.mem_cons_self ..)
    unfold digB at hb
    simp only [Bool.and_eq_true, decide_eq_true_eq] at hb
    rw [Lib.decFrom, Lib.digitVal, if_pos hb, List.foldl_cons]
    show Lib.decFrom (acc * 10 + (b.toNat - 48)) l = _
    rw [decFrom_val l _ fun c hc => h c (List.mem_cons_of_mem _ hc), Nat.mul_comm acc 10]
theorem atoi_val {l : Wd} (h : ∀ b ∈ l, digB b = true) (hn : l ≠ []) : Lib.atoi l = some ((valD l : Nat) : Int) := by
  cases l with
  | nil => exact absurd rfl hn
  | cons b t =>
    have hb := h b (List.mem_cons_self ..)
    have h1 : (b == 45) = false := by
      rw [beq_eq_false_iff_ne]; rintro rfl; exact absurd hb (by decide)
    have h2 : (b == 43) = false := by
      rw [beq_eq_false_iff_ne]; rintro rfl; exact absurd hb (by decide)
    rw [Lib.atoi, h1, h2]
    simp only [Bool.false_eq_true, if_false]
    unfold Lib.decNat
    rw [if_neg (by simp), decFrom_val _ _ h]; rfl
theorem tw_all (q : UInt8 → Bool) : ∀ (l : Wd), ∀ b ∈ l.takeWhile q, q b = true
  | [], b, h => by simp at h
  | a :: l, b, h => by
    rw [List.takeWhile_cons] at h
    split at h
    · rename_i ha
      rcases List.mem_cons.1 h with rfl | h
      · exact ha
      · exact tw_all q l b h
    · simp at h
theorem num_ok {r x r2 : Wd} {b : UInt8} {t : Wd} (hr : r = b :: t) (hb : digB b = true) (h : numT r = .ok (x, r2)) : (∀ c ∈ x, digB c = true) ∧ x ≠ [] ∧ x.length ≤ 16 := by
  subst hr
  unfold numT at h
  split at h
  · cases h
  · rename_i h16
    split at h
    · cases h
    · injection h with h
      injection h with h1 h2
      subst h1
      exact ⟨tw_all _ _, by rw [List.takeWhile_cons, if_pos hb]; simp, by omega⟩
theorem tk_put {w : World} {R : Nat} {a b c : Int} {d : ByteArray} (h : TkB w R a b c d) (k n p : Int) (x : ByteArray) : TkB ((((w.setCell ⟨R, 0, none⟩ (.int .i64 k)).setCell ⟨R, 1, none⟩ (.int .i64 n)).setCell ⟨R, 2, none⟩ (.int .i64 p)).setCell ⟨R, 3, none⟩ (.string x)) R k n p x := by
  unfold TkB at h ⊢; simp [World.setCell, Array.getElem?_modify, h]
theorem gr_put (w : World) (R : Nat) (k n p : Int) (x : ByteArray) : w.grownBy ((((w.setCell ⟨R, 0, none⟩ (.int .i64 k)).setCell ⟨R, 1, none⟩ (.int .i64 n)).setCell ⟨R, 2, none⟩ (.int .i64 p)).setCell ⟨R, 3, none⟩ (.string x)) (some R) :=
  gr_tr (gr_tr (gr_tr (gr_set _ _ _ _) (gr_set _ _ _ _)) (gr_set _ _ _ _)) (gr_set _ _ _ _)
theorem gr_new {a b c : World} {g R : Nat} (h : a.grownBy b (some g)) (k : b.grownBy c (some R)) (hR : a.heap.size ≤ R) : a.grownBy c (some g) :=
  ⟨k.os.trans h.os, k.tape.trans h.tape, k.output.trans h.output, Nat.le_trans h.size k.size, fun i hi hr => (k.block i (Nat.lt_of_lt_of_le hi h.size) (fun e => by have := Option.some.inj e; omega)).trans (h.block i hi hr)⟩
/-- Within token: the cursor, the result's cell, the token. -/
structure St (w0 w : World) (g R H : Nat) (s : ByteArray) (p : Nat) (r : Wd) (k n q : Int) (x : ByteArray) : Prop where
  cur : Cur w g s p r
  res : TkB w R 0 0 0 ⟨#[]⟩
  tk : TkB w H k n q x
  gr : w0.grownBy w (some g)
  gR : g < R
  RH : R < H
  wR : w0.heap.size ≤ R
section
variable {w0 w w' : World} {g R H p p' : Nat} {s : ByteArray} {r r' : Wd} {k n q : Int} {x : ByteArray}
theorem St.drew (h : St w0 w g R H s p r k n q x) (m : Nat) : St w0 (w.drewN m) g R H s p r k n q x := ⟨h.cur.drew m, h.res.keep rfl, h.tk.keep rfl, gr_tr h.gr (gr_dr _ _ m), h.gR, h.RH, h.wR⟩
theorem St.call (h : St w0 w g R H s p r k n q x) (hc : CO w w' g s p' r') : St w0 w' g R H s p' r' k n q x :=
  ⟨hc.1, h.res.far hc.2 (Nat.ne_of_gt h.gR), h.tk.far hc.2 (Nat.ne_of_gt (Nat.lt_trans h.gR h.RH)), gr_tr h.gr hc.2, h.gR, h.RH, h.wR⟩
/-- A change of the token itself. -/
theorem St.put (h : St w0 w g R H s p r k n q x) {k' n' q' : Int} {x' : ByteArray} (hg : w.grownBy w' (some H)) (ht : TkB w' H k' n' q' x') : St w0 w' g R H s p r k' n' q' x' :=
  ⟨h.cur.far hg (Nat.ne_of_lt (Nat.lt_trans h.gR h.RH)), h.res.far hg (Nat.ne_of_lt h.RH), ht, gr_new h.gr hg (Nat.le_trans h.wR (Nat.le_of_lt h.RH)), h.gR, h.RH, h.wR⟩
/-- New memory. -/
theorem St.below (h : St w0 w g R H s p r k n q x) (hb : Below w.heap.size w w') : St w0 w' g R H s p r k n q x :=
  ⟨h.cur.below hb, h.res.below hb, h.tk.below hb, gr_tr h.gr (gr_be hb), h.gR, h.RH, h.wR⟩
/-- The result is laid. -/
theorem St.fin (h : St w0 w g R H s p r k n q x) (a b c : Int) (d : ByteArray) : CoR w0 ((((w.setCell ⟨R, 0, none⟩ (.int .i64 a)).setCell ⟨R, 1, none⟩ (.int .i64 b)).setCell ⟨R, 2, none⟩ (.int .i64 c)).setCell ⟨R, 3, none⟩ (.string d)) g s r :=
  ⟨p, h.cur.far (gr_put w R a b c d) (Nat.ne_of_lt h.gR), gr_new h.gr (gr_put w R a b c d) h.wR⟩
theorem St.all (h : St w0 w g R H s p r k n q x) : (w.cell? ⟨g, 0, none⟩ = some (.string s) ∧ w.cell? ⟨g, 1, none⟩ = some (.int .i64 p)) ∧ ((w.cell? ⟨H, 0, none⟩ = some (.int .i64 k) ∧ w.cell? ⟨H, 1, none⟩ = some (.int .i64 n) ∧ w.cell? ⟨H, 2, none⟩ = some (.int .i64 q) ∧ w.cell? ⟨H, 3, none⟩ = some (.string x)) ∧ w.frozen? ⟨H, 0, none⟩ = false ∧ w.frozen? ⟨H, 1, none⟩ = false ∧ w.frozen? ⟨H, 2, none⟩ = false ∧ w.frozen? ⟨H, 3, none⟩ = false) ∧
    ((w.cell? ⟨R, 0, none⟩ = some (.int .i64 0) ∧ w.cell? ⟨R, 1, none⟩ = some (.int .i64 0) ∧ w.cell? ⟨R, 2, none⟩ = some (.int .i64 0) ∧ w.cell? ⟨R, 3, none⟩ = some (.string ⟨#[]⟩)) ∧ w.frozen? ⟨R, 0, none⟩ = false ∧ w.frozen? ⟨R, 1, none⟩ = false ∧ w.frozen? ⟨R, 2, none⟩ = false ∧ w.frozen? ⟨R, 3, none⟩ = false) :=
  ⟨⟨h.cur.cells.1, h.cur.cells.2.1⟩, h.tk.cells, h.res.cells⟩
end
set_option maxRecDepth 100000 in
set_option maxHeartbeats 16000000 in
theorem token_any {w : World} {g p : Nat} {s : ByteArray} {r : Wd} (h : Cur w g s p r) :
    Calls Tryd.prog 27 #[.pointer (some ⟨g, 0, none⟩)] w (TokOut w g s (skp false r)) := by
  obtain ⟨R, hR⟩ : ∃ R, w.heap.size = R := ⟨_, rfl⟩
  obtain ⟨W0, hW0⟩ : ∃ W, w.alloc (.cells #[.int .i64 0, .int .i64 0, .int .i64 0, .string ⟨#[]⟩] 30) = W := ⟨_, rfl⟩
  have hB0 : Below w.heap.size w W0 := hW0 ▸ (Below.refl _ w).alloc (Nat.le_refl _) _
  have HR0 : Hid (TkB W0 R 0 0 0 ⟨#[]⟩) := Lib.hid (hW0 ▸ hR ▸ TkB.new w 0 0 0 ⟨#[]⟩)
  have hgR : g < R := hR ▸ h.lt
  have HSK := Lib.hid (skipBlanks_any (h.below hB0))
  have HB0 := Lib.hid hB0
  obtain ⟨r1, hr1⟩ : ∃ r1, skp false r = r1 := ⟨_, rfl⟩
  rw [hr1] at HSK ⊢
  clear h hr1 hB0
  go_enter Tryd.func27, Tryd.ntmps27
  go_wp2_with (go_at_call 34; (with_reducible refine HSK.out.mono ?_); rintro e w1 ⟨rfl, p1, hC1⟩; have HC1 := Lib.hid hC1; have HR1 := Lib.hid (HR0.out.far hC1.2 (Nat.ne_of_gt hgR)); obtain ⟨c0, c1, f0, f1⟩ := hC1.1.cells; clear hC1)
  have HRH := Lib.hid (Nat.lt_of_lt_of_le HR0.out.lt (Nat.le_trans HC1.out.2.size (Nat.le_refl _)))
  have HS2 : Hid (St w (w1.alloc (.cells #[.int .i64 0, .int .i64 0, .int .i64 p1, .string ⟨#[]⟩] 30)) g R w1.heap.size s p1 r1 0 0 p1 ⟨#[]⟩) := Lib.hid
    ⟨HC1.out.1.below ((Below.refl _ w1).alloc (Nat.le_refl _) _), HR1.out.below ((Below.refl _ w1).alloc (Nat.le_refl _) _), TkB.new w1 _ _ _ _, gr_tr (gr_tr (gr_be HB0.out) HC1.out.2) (gr_be ((Below.refl _ w1).alloc (Nat.le_refl _) _)), hgR, HRH.out, Nat.le_of_eq hR⟩
  generalize hH : w1.heap.size = H at HS2

  generalize hW2 : World.alloc w1 _ = W2 at HS2

  clear hR hW0 HR0 HB0 HSK HC1 HR1 HRH c0 c1 f0 f1 hH hW2
  have hgH : g < H := Nat.lt_trans HS2.out.gR HS2.out.RH
  obtain ⟨⟨c0, c1⟩, -, -⟩ := HS2.out.all
  have HPK := Lib.hid (fun n => peek_any (HS2.out.drew n).cur)
  have hpl := HS2.out.cur.len
  have hs9 := HS2.out.cur.sz
  unfold maxLen at hs9
  cases r1 with
  | nil =>
    have hps : p1 = s.size := by simpa using hpl
    have d0 : ((p1 : Int) == (s.size : Int)) = true := by rw [hps]; simp
    go_quiet (fail)
    generalize hW3 : World.drewN W2 _ = W3
    have HS3 := Lib.hid (hW3 ▸ HS2.out.drew _ : St w W3 g R H s p1 [] 0 0 p1 ⟨#[]⟩)
    clear c0 c1 hW3
    obtain ⟨⟨c0, c1⟩, ⟨⟨t0, t1, t2, t3⟩, u0, u1, u2, u3⟩, ⟨r0, r1, r2, r3⟩, q0, q1, q2, q3⟩ := HS3.out.all
    have hRH : R ≠ H := Nat.ne_of_lt HS3.out.RH
    have hRH2 : H ≠ R := Ne.symm hRH
    go_wp2_with fail
    refine bodyPost_ret (v := .agg #[.int .i64 0, .int .i64 0, .int .i64 s.size, .string ⟨#[]⟩]) (results_cell_row (p := 2) rfl _ _ R 30 #[.int .i64 0, .int .i64 0, .int .i64 s.size, .string ⟨#[]⟩] (0, 0) _ rfl (tk_put HS3.out.res _ _ _ _) Tryd.underlying30 rfl rfl) rfl ?_
    exact ⟨rfl, HS3.out.fin _ _ _ _⟩
  | cons b t =>
    have hps : p1 < s.size := by simp at hpl; omega
    have d0 : ((p1 : Int) == (s.size : Int)) = false := by rw [beq_eq_false_iff_ne]; omega
    have HPL : Hid (p1 + (t.length + 1) = s.size) := Lib.hid (by simpa using hpl)
    have HIL := Lib.hid (fun W => isLetter_any b W)
    have HID := Lib.hid (fun W => isDigit_any b W)
    have HPK : Hid (∀ W, St w W g R H s p1 (b :: t) 0 0 p1 ⟨#[]⟩ → Calls Tryd.prog 35 #[.pointer (some ⟨g, 0, none⟩)] W fun e w' => e = .returned (.int .u8 b.toNat) ∧ ∃ n, w' = W.drewN n) := Lib.hid (fun W h => peek_any h.cur)
    have hHg : H ≠ g := Ne.symm (Nat.ne_of_lt hgH)
    have hRH : R ≠ H := Nat.ne_of_lt HS2.out.RH
    have hRH2 : H ≠ R := Ne.symm hRH
    clear hpl
    go_quiet (fail)
    generalize hW3 : World.drewN W2 _ = W3
    have HS3 := Lib.hid (hW3 ▸ HS2.out.drew _ : St w W3 g R H s p1 (b :: t) 0 0 p1 ⟨#[]⟩)
    clear c0 c1 hW3
    obtain ⟨⟨c0, c1⟩, ⟨⟨t0, t1, t2, t3⟩, u0, u1, u2, u3⟩, ⟨r0, r1, r2, r3⟩, q0, q1, q2, q3⟩ := HS3.out.all
    cases hlow : lowB b
    · rw [hlow] at HIL
      cases hdig : digB b
      · rw [hdig] at HID
        have e34 : ((b.toNat : Int) == (34 : Int)) = (b == 34) := beq_nat b 34 (by decide)
        cases hq : (b == 34)
        · rw [hq] at e34
          have hTK := tok_s (t := t) hlow hdig hq
          have HTX := Lib.hid (fun W (h : Cur W g s p1 (b :: t)) => symbol_any h)
          obtain ⟨res, hres⟩ : ∃ res, symT (b :: t) = res := ⟨_, rfl⟩
          rw [hres] at hTK HTX
          clear hres
          cases res with
          | error n =>
            have HTK : Hid (tok (b :: t) = .error n) := Lib.hid hTK
            clear hTK
            unfold TxOut at HTX
            go_wp2_with (first
              | (go_at_call 35; (with_reducible refine (HPK.out W3 HS3.out).mono ?_); rintro e w4 ⟨rfl, n4, rfl⟩; have HS4 := Lib.hid (HS3.out.drew n4); clear c0 c1 t0 t1 t2 t3 u0 u1 u2 u3 r0 r1 r2 r3 q0 q1 q2 q3; obtain ⟨⟨c0, c1⟩, ⟨⟨t0, t1, t2, t3⟩, u0, u1, u2, u3⟩, ⟨r0, r1, r2, r3⟩, q0, q1, q2, q3⟩ := HS4.out.all)
              | (go_at_call 36; (with_reducible refine (HIL.out _).mono ?_); rintro e w5 ⟨rfl, rfl⟩)
              | (go_at_call 38; (with_reducible refine (HID.out _).mono ?_); rintro e w5 ⟨rfl, rfl⟩)
              | (go_at_call 42; (with_reducible refine (HTX.out _ HS4.out.cur).mono ?_); rintro e w6 ⟨rfl, hg6⟩; have HG6 := Lib.hid (gr_tr HS4.out.gr hg6); clear hg6))
            refine ⟨rfl, p1, HPL.out, ?_⟩
            rw [HTK.out]
            exact ⟨rfl, HG6.out⟩
          | ok y =>
            obtain ⟨x, r2'⟩ := y
            have HTK : Hid (tok (b :: t) = .ok (4, x, r2')) := Lib.hid hTK
            clear hTK
            unfold TxOut at HTX
            go_wp2_with (first
              | (go_at_call 35; (with_reducible refine (HPK.out W3 HS3.out).mono ?_); rintro e w4 ⟨rfl, n4, rfl⟩; have HS4 := Lib.hid (HS3.out.drew n4); clear c0 c1 t0 t1 t2 t3 u0 u1 u2 u3 r0 r1 r2 r3 q0 q1 q2 q3; obtain ⟨⟨c0, c1⟩, ⟨⟨t0, t1, t2, t3⟩, u0, u1, u2, u3⟩, ⟨r0, r1, r2, r3⟩, q0, q1, q2, q3⟩ := HS4.out.all)
              | (go_at_call 36; (with_reducible refine (HIL.out _).mono ?_); rintro e w5 ⟨rfl, rfl⟩)
              | (go_at_call 38; (with_reducible refine (HID.out _).mono ?_); rintro e w5 ⟨rfl, rfl⟩)
              | (go_at_call 42; (with_reducible refine (HTX.out _ HS4.out.cur).mono ?_); rintro e w6 ⟨X, rfl, hX, hXs, p6, hC6⟩; have HXX := Lib.hid (And.intro hX hXs); have HS6 := Lib.hid (HS4.out.call hC6); clear hX hXs hC6 c0 c1 t0 t1 t2 t3 u0 u1 u2 u3 r0 r1 r2 r3 q0 q1 q2 q3; obtain ⟨⟨c0, c1⟩, ⟨⟨t0, t1, t2, t3⟩, u0, u1, u2, u3⟩, ⟨r0, r1, r2, r3⟩, q0, q1, q2, q3⟩ := HS6.out.all))
            have HS8 := Lib.hid ((HS6.out.put (gr_set _ H 0 (.int .i64 4)) (HS6.out.tk.set0 4)).put (gr_set _ H 3 (.string X)) ((HS6.out.tk.set0 4).set3 X))
            refine bodyPost_ret (v := .agg #[.int .i64 4, .int .i64 0, .int .i64 p1, .string X]) (results_cell_row (p := 2) rfl _ _ R 30 #[.int .i64 4, .int .i64 0, .int .i64 p1, .string X] (0, 0) _ rfl (tk_put HS8.out.res _ _ _ _) Tryd.underlying30 rfl rfl) rfl ?_
            refine ⟨p1, HPL.out, ?_⟩
            rw [HTK.out]
            exact ⟨X, rfl, HXX.out.1, HXX.out.2, HS8.out.fin _ _ _ _⟩
        · rw [hq] at e34
          have hb34 : b = 34 := by simpa using hq
          have hTK := (show tok (b :: t) = tag 3 (qotT t) by rw [hb34]; exact tok_q)
          have HTX := Lib.hid (fun W (h : Cur W g s p1 (b :: t)) => quoted_any h)
          obtain ⟨res, hres⟩ : ∃ res, qotT t = res := ⟨_, rfl⟩
          rw [hres] at hTK HTX
          clear hres
          clear hb34
          cases res with
          | error n =>
            have HTK : Hid (tok (b :: t) = .error n) := Lib.hid hTK
            clear hTK
            unfold TxOut at HTX
            go_wp2_with (first
              | (go_at_call 35; (with_reducible refine (HPK.out W3 HS3.out).mono ?_); rintro e w4 ⟨rfl, n4, rfl⟩; have HS4 := Lib.hid (HS3.out.drew n4); clear c0 c1 t0 t1 t2 t3 u0 u1 u2 u3 r0 r1 r2 r3 q0 q1 q2 q3; obtain ⟨⟨c0, c1⟩, ⟨⟨t0, t1, t2, t3⟩, u0, u1, u2, u3⟩, ⟨r0, r1, r2, r3⟩, q0, q1, q2, q3⟩ := HS4.out.all)
              | (go_at_call 36; (with_reducible refine (HIL.out _).mono ?_); rintro e w5 ⟨rfl, rfl⟩)
              | (go_at_call 38; (with_reducible refine (HID.out _).mono ?_); rintro e w5 ⟨rfl, rfl⟩)
              | (go_at_call 41; (with_reducible refine (HTX.out _ HS4.out.cur).mono ?_); rintro e w6 ⟨rfl, hg6⟩; have HG6 := Lib.hid (gr_tr HS4.out.gr hg6); clear hg6))
            refine ⟨rfl, p1, HPL.out, ?_⟩
            rw [HTK.out]
            exact ⟨rfl, HG6.out⟩
          | ok y =>
            obtain ⟨x, r2'⟩ := y
            have HTK : Hid (tok (b :: t) = .ok (3, x, r2')) := Lib.hid hTK
            clear hTK
            unfold TxOut at HTX
            go_wp2_with (first
              | (go_at_call 35; (with_reducible refine (HPK.out W3 HS3.out).mono ?_); rintro e w4 ⟨rfl, n4, rfl⟩; have HS4 := Lib.hid (HS3.out.drew n4); clear c0 c1 t0 t1 t2 t3 u0 u1 u2 u3 r0 r1 r2 r3 q0 q1 q2 q3; obtain ⟨⟨c0, c1⟩, ⟨⟨t0, t1, t2, t3⟩, u0, u1, u2, u3⟩, ⟨r0, r1, r2, r3⟩, q0, q1, q2, q3⟩ := HS4.out.all)
              | (go_at_call 36; (with_reducible refine (HIL.out _).mono ?_); rintro e w5 ⟨rfl, rfl⟩)
              | (go_at_call 38; (with_reducible refine (HID.out _).mono ?_); rintro e w5 ⟨rfl, rfl⟩)
              | (go_at_call 41; (with_reducible refine (HTX.out _ HS4.out.cur).mono ?_); rintro e w6 ⟨X, rfl, hX, hXs, p6, hC6⟩; have HXX := Lib.hid (And.intro hX hXs); have HS6 := Lib.hid (HS4.out.call hC6); clear hX hXs hC6 c0 c1 t0 t1 t2 t3 u0 u1 u2 u3 r0 r1 r2 r3 q0 q1 q2 q3; obtain ⟨⟨c0, c1⟩, ⟨⟨t0, t1, t2, t3⟩, u0, u1, u2, u3⟩, ⟨r0, r1, r2, r3⟩, q0, q1, q2, q3⟩ := HS6.out.all))
            have HS8 := Lib.hid ((HS6.out.put (gr_set _ H 0 (.int .i64 3)) (HS6.out.tk.set0 3)).put (gr_set _ H 3 (.string X)) ((HS6.out.tk.set0 3).set3 X))
            refine bodyPost_ret (v := .agg #[.int .i64 3, .int .i64 0, .int .i64 p1, .string X]) (results_cell_row (p := 2) rfl _ _ R 30 #[.int .i64 3, .int .i64 0, .int .i64 p1, .string X] (0, 0) _ rfl (tk_put HS8.out.res _ _ _ _) Tryd.underlying30 rfl rfl) rfl ?_
            refine ⟨p1, HPL.out, ?_⟩
            rw [HTK.out]
            exact ⟨X, rfl, HXX.out.1, HXX.out.2, HS8.out.fin _ _ _ _⟩
      · rw [hdig] at HID
        have hTK := tok_d (t := t) hlow hdig
        have HTX := Lib.hid (fun W (h : Cur W g s p1 (b :: t)) => number_any h)
        obtain ⟨res, hres⟩ : ∃ res, numT (b :: t) = res := ⟨_, rfl⟩
        rw [hres] at hTK HTX
        have HNO := Lib.hid (fun x r2 (h : res = .ok (x, r2)) => num_ok rfl hdig (hres.trans h))
        clear hres
        cases res with
        | error n =>
          have HTK : Hid (tok (b :: t) = .error n) := Lib.hid hTK
          clear hTK
          unfold TxOut at HTX
          go_wp2_with (first
            | (go_at_call 35; (with_reducible refine (HPK.out W3 HS3.out).mono ?_); rintro e w4 ⟨rfl, n4, rfl⟩; have HS4 := Lib.hid (HS3.out.drew n4); clear c0 c1 t0 t1 t2 t3 u0 u1 u2 u3 r0 r1 r2 r3 q0 q1 q2 q3; obtain ⟨⟨c0, c1⟩, ⟨⟨t0, t1, t2, t3⟩, u0, u1, u2, u3⟩, ⟨r0, r1, r2, r3⟩, q0, q1, q2, q3⟩ := HS4.out.all)
            | (go_at_call 36; (with_reducible refine (HIL.out _).mono ?_); rintro e w5 ⟨rfl, rfl⟩)
            | (go_at_call 38; (with_reducible refine (HID.out _).mono ?_); rintro e w5 ⟨rfl, rfl⟩)
            | (go_at_call 39; (with_reducible refine (HTX.out _ HS4.out.cur).mono ?_); rintro e w6 ⟨rfl, hg6⟩; have HG6 := Lib.hid (gr_tr HS4.out.gr hg6); clear hg6))
          refine ⟨rfl, p1, HPL.out, ?_⟩
          rw [HTK.out]
          exact ⟨rfl, HG6.out⟩
        | ok y =>
          obtain ⟨x, r2'⟩ := y
          have HTK : Hid (tok (b :: t) = .ok (2, x, r2')) := Lib.hid hTK
          have HN2 := Lib.hid (HNO.out x r2' rfl)
          clear hTK
          unfold TxOut at HTX
          go_wp2_with (first
            | (go_at_call 35; (with_reducible refine (HPK.out W3 HS3.out).mono ?_); rintro e w4 ⟨rfl, n4, rfl⟩; have HS4 := Lib.hid (HS3.out.drew n4); clear c0 c1 t0 t1 t2 t3 u0 u1 u2 u3 r0 r1 r2 r3 q0 q1 q2 q3; obtain ⟨⟨c0, c1⟩, ⟨⟨t0, t1, t2, t3⟩, u0, u1, u2, u3⟩, ⟨r0, r1, r2, r3⟩, q0, q1, q2, q3⟩ := HS4.out.all)
            | (go_at_call 36; (with_reducible refine (HIL.out _).mono ?_); rintro e w5 ⟨rfl, rfl⟩)
            | (go_at_call 38; (with_reducible refine (HID.out _).mono ?_); rintro e w5 ⟨rfl, rfl⟩)
            | (go_at_call 39; (with_reducible refine (HTX.out _ HS4.out.cur).mono ?_); rintro e w6 ⟨X, rfl, hX, hXs, p6, hC6⟩; have HXX := Lib.hid (And.intro hX hXs); have HS6 := Lib.hid (HS4.out.call hC6); clear hX hXs hC6 c0 c1 t0 t1 t2 t3 u0 u1 u2 u3 r0 r1 r2 r3 q0 q1 q2 q3; obtain ⟨⟨c0, c1⟩, ⟨⟨t0, t1, t2, t3⟩, u0, u1, u2, u3⟩, ⟨r0, r1, r2, r3⟩, q0, q1, q2, q3⟩ := HS6.out.all; have HAT : Hid (∀ W, Calls Tryd.prog 40 #[.string X] W fun e w' => e = .returned (.tuple #[.int .i64 (valD x : Nat), .nilIface]) ∧ Below W.heap.size W w') := Lib.hid (fun W => (Tryd.strconv_Atoi X _ (by have h5 := HXX.out.1; have h6 := HN2.out.2.2; have h7 := congrArg List.length h5; simp at h7; omega) (by rw [HXX.out.1]; exact atoi_val HN2.out.1 HN2.out.2.1) W).mono (by rintro e w' ⟨rfl, t9, rfl⟩; exact ⟨rfl, Lib.bytesWorld_below _ _ _⟩)); have HS6b := Lib.hid ((HS6.out.put (gr_set _ H 0 (.int .i64 2)) (HS6.out.tk.set0 2)).put (gr_set _ H 3 (.string X)) ((HS6.out.tk.set0 2).set3 X)))
            | (go_at_call 40; (with_reducible refine (HAT.out _).mono ?_); rintro e w7 ⟨rfl, hb7⟩; have HS7 := Lib.hid (HS6b.out.below hb7); clear hb7 c0 c1 t0 t1 t2 t3 u0 u1 u2 u3 r0 r1 r2 r3 q0 q1 q2 q3; obtain ⟨⟨c0, c1⟩, ⟨⟨t0, t1, t2, t3⟩, u0, u1, u2, u3⟩, ⟨r0, r1, r2, r3⟩, q0, q1, q2, q3⟩ := HS7.out.all))
          have HS8 := Lib.hid (HS7.out.put (gr_set _ H 1 (.int .i64 (valD x : Nat))) (HS7.out.tk.set1 (valD x : Nat)))
          refine bodyPost_ret (v := .agg #[.int .i64 2, .int .i64 (valD x : Nat), .int .i64 p1, .string X]) (results_cell_row (p := 2) rfl _ _ R 30 #[.int .i64 2, .int .i64 (valD x : Nat), .int .i64 p1, .string X] (0, 0) _ rfl (tk_put HS8.out.res _ _ _ _) Tryd.underlying30 rfl rfl) rfl ?_
          refine ⟨p1, HPL.out, ?_⟩
          rw [HTK.out]
          exact ⟨X, rfl, HXX.out.1, HXX.out.2, HS8.out.fin _ _ _ _⟩
    · rw [hlow] at HIL
      have hTK := tok_w (t := t) hlow
      have HTX := Lib.hid (fun W (h : Cur W g s p1 (b :: t)) => word_any h)
      obtain ⟨res, hres⟩ : ∃ res, wrdT (b :: t) = res := ⟨_, rfl⟩
      rw [hres] at hTK HTX
      clear hres
      cases res with
      | error n =>
        have HTK : Hid (tok (b :: t) = .error n) := Lib.hid hTK
        clear hTK
        unfold TxOut at HTX
        go_wp2_with (first
          | (go_at_call 35; (with_reducible refine (HPK.out W3 HS3.out).mono ?_); rintro e w4 ⟨rfl, n4, rfl⟩; have HS4 := Lib.hid (HS3.out.drew n4); clear c0 c1 t0 t1 t2 t3 u0 u1 u2 u3 r0 r1 r2 r3 q0 q1 q2 q3; obtain ⟨⟨c0, c1⟩, ⟨⟨t0, t1, t2, t3⟩, u0, u1, u2, u3⟩, ⟨r0, r1, r2, r3⟩, q0, q1, q2, q3⟩ := HS4.out.all)
          | (go_at_call 36; (with_reducible refine (HIL.out _).mono ?_); rintro e w5 ⟨rfl, rfl⟩)
          | (go_at_call 37; (with_reducible refine (HTX.out _ HS4.out.cur).mono ?_); rintro e w6 ⟨rfl, hg6⟩; have HG6 := Lib.hid (gr_tr HS4.out.gr hg6); clear hg6))
        refine ⟨rfl, p1, HPL.out, ?_⟩
        rw [HTK.out]
        exact ⟨rfl, HG6.out⟩
      | ok y =>
        obtain ⟨x, r2'⟩ := y
        have HTK : Hid (tok (b :: t) = .ok (1, x, r2')) := Lib.hid hTK
        clear hTK
        unfold TxOut at HTX
        go_wp2_with (first
          | (go_at_call 35; (with_reducible refine (HPK.out W3 HS3.out).mono ?_); rintro e w4 ⟨rfl, n4, rfl⟩; have HS4 := Lib.hid (HS3.out.drew n4); clear c0 c1 t0 t1 t2 t3 u0 u1 u2 u3 r0 r1 r2 r3 q0 q1 q2 q3; obtain ⟨⟨c0, c1⟩, ⟨⟨t0, t1, t2, t3⟩, u0, u1, u2, u3⟩, ⟨r0, r1, r2, r3⟩, q0, q1, q2, q3⟩ := HS4.out.all)
          | (go_at_call 36; (with_reducible refine (HIL.out _).mono ?_); rintro e w5 ⟨rfl, rfl⟩)
          | (go_at_call 37; (with_reducible refine (HTX.out _ HS4.out.cur).mono ?_); rintro e w6 ⟨X, rfl, hX, hXs, p6, hC6⟩; have HXX := Lib.hid (And.intro hX hXs); have HS6 := Lib.hid (HS4.out.call hC6); clear hX hXs hC6 c0 c1 t0 t1 t2 t3 u0 u1 u2 u3 r0 r1 r2 r3 q0 q1 q2 q3; obtain ⟨⟨c0, c1⟩, ⟨⟨t0, t1, t2, t3⟩, u0, u1, u2, u3⟩, ⟨r0, r1, r2, r3⟩, q0, q1, q2, q3⟩ := HS6.out.all))
        have HS8 := Lib.hid ((HS6.out.put (gr_set _ H 0 (.int .i64 1)) (HS6.out.tk.set0 1)).put (gr_set _ H 3 (.string X)) ((HS6.out.tk.set0 1).set3 X))
        refine bodyPost_ret (v := .agg #[.int .i64 1, .int .i64 0, .int .i64 p1, .string X]) (results_cell_row (p := 2) rfl _ _ R 30 #[.int .i64 1, .int .i64 0, .int .i64 p1, .string X] (0, 0) _ rfl (tk_put HS8.out.res _ _ _ _) Tryd.underlying30 rfl rfl) rfl ?_
        refine ⟨p1, HPL.out, ?_⟩
        rw [HTK.out]
        exact ⟨X, rfl, HXX.out.1, HXX.out.2, HS8.out.fin _ _ _ _⟩
end Go.Proofs.YtkdimbpmgngajaaDoor.Lx
