/- Walks: the cursor's symbol. -/
import Derived.Test.YtkdimbpmgngajaaDoorLxD
namespace Go.Proofs.YtkdimbpmgngajaaDoor.Lx
open Go Go.Lib Go.RowKit Go.Proofs.YtkdimbpmgngajaaDoor

set_option maxHeartbeats 1000000 in
theorem litePrefix_any (s p : ByteArray) (w : World) (hs : s.size ≤ maxLen) (hp : p.size ≤ maxLen) :
    Calls Tryd.prog 58 #[.string s, .string p] w fun e w' => e = .returned (.bool (Lib.hasPrefix s.data.toList p.data.toList)) ∧ w = w' := by
  unfold maxLen at hs hp
  have HF := Lib.hid (Lib.hasPrefix_raw s p)
  by_cases h : p.size ≤ s.size
  · have hd : decide (p.size ≤ s.size) = true := by simpa using h
    go_enter Tryd.func58, Tryd.ntmps58
    go_wp2
    go_ret
    refine ⟨ret_bool ?_, rfl⟩
    rw [← HF.out, hd]; simp
  · have hd : decide (p.size ≤ s.size) = false := by simpa using h
    go_enter Tryd.func58, Tryd.ntmps58
    go_wp2
    go_ret
    refine ⟨ret_bool ?_, rfl⟩
    rw [← HF.out, hd]; simp
set_option maxHeartbeats 1000000 in
theorem hasPrefix_is (s p : ByteArray) (v : Bool) (hv : Lib.hasPrefix s.data.toList p.data.toList = v) (w : World) (hs : s.size ≤ maxLen) (hp : p.size ≤ maxLen) :
    Calls Tryd.prog 51 #[.string s, .string p] w fun e w' => e = .returned (.bool v) ∧ w = w' := by
  have H := Lib.hid (fun W => litePrefix_any s p W hs hp)
  rw [hv] at H
  clear hs hp hv
  go_enter Tryd.func51, Tryd.ntmps51
  go_wp2_with (go_at_call 58; (with_reducible refine (H.out _).mono ?_); rintro e w1 ⟨rfl, rfl⟩)
  go_ret
  exact ⟨rfl, rfl⟩
def symT (r : Wd) : Except Nat (Wd × Wd) := match sym r with
  | some y => .ok y
  | none => .error 1
def pf2 (b c : UInt8) (r : Wd) : Bool := match r with
  | x :: y :: _ => x == b && y == c
  | _ => false
theorem pf2_eq (b c : UInt8) (r : Wd) : Lib.hasPrefix r [b, c] = pf2 b c r := by
  unfold Lib.hasPrefix pf2
  match r with
  | [] => rfl
  | [x] => simp [List.isPrefixOf]
  | x :: y :: t => simp [List.isPrefixOf, BEq.comm]
/-- Is the symbol one of two bytes? -/
def dblH (r : Wd) : Bool := pf2 60 62 r || pf2 60 61 r || pf2 62 61 r
theorem sym_dbl {r : Wd} (h : dblH r = true) : 2 ≤ r.length ∧ symT r = .ok (r.take 2, r.drop 2) := by
  match r, h with
  | x :: y :: t, h =>
    have hd : dblB x y = true := by
      unfold dblH pf2 at h
      unfold dblB
      simp only [Bool.or_eq_true, Bool.and_eq_true] at h ⊢
      rcases h with (h | h) | h
      · exact .inl ⟨h.1, .inl h.2⟩
      · exact .inl ⟨h.1, .inr h.2⟩
      · exact .inr h
    refine ⟨by simp, ?_⟩
    unfold symT; rw [sym]; simp only [hd, if_true]; rfl
theorem sym_one {b : UInt8} {t : Wd} (h : dblH (b :: t) = false) : symT (b :: t) = if sglB b then .ok ([b], t) else .error 1 := by
  unfold symT
  match t, h with
  | [], h =>
    rw [sym]
    cases sglB b <;> rfl
  | c :: u, h =>
    have hd : dblB b c = false := by
      unfold dblH pf2 at h
      unfold dblB
      simp only [Bool.or_eq_false_iff, Bool.and_eq_false_iff] at h ⊢
      obtain ⟨⟨h1, h2⟩, h3⟩ := h
      refine ⟨?_, h3⟩
      rcases h1 with h1 | h1
      · exact .inl h1
      · rcases h2 with h2 | h2
        · exact .inl h2
        · exact .inr ⟨h1, h2⟩
    rw [sym]
    simp only [hd, Bool.false_eq_true, if_false]
    cases sglB b <;> rfl
theorem idx_sgl (b : UInt8) : decide (Lib.indexByte [59, 44, 43, 45, 58, 40, 41, 61, 60, 62, 42, 47, 37] b < 0) = !sglB b := by
  have h : ∀ i : Fin 256, decide (Lib.indexByte [59, 44, 43, 45, 58, 40, 41, 61, 60, 62, 42, 47, 37] (UInt8.ofNat i.val) < 0) = !sglB (UInt8.ofNat i.val) := by decide +kernel
  have h2 := h ⟨b.toNat, b.toNat_lt⟩
  simpa using h2
theorem byt_back (b : UInt8) : ((b.toNat : Int).toNat.toUInt8) = b := by simp [Nat.toUInt8]
set_option maxRecDepth 100000 in
set_option maxHeartbeats 8000000 in
theorem symbol_any {w : World} {g p : Nat} {s : ByteArray} {b : UInt8} {t : Wd} (h : Cur w g s p (b :: t)) :
    Calls Tryd.prog 42 #[.pointer (some ⟨g, 0, none⟩)] w (TxOut w g s p (symT (b :: t))) := by
  obtain ⟨c0, c1, f0, f1⟩ := h.cells
  obtain ⟨hp, hb⟩ := h.head
  have hs9 := h.sz
  unfold maxLen at hs9
  have hp' : (p : Int) ≤ (s.size : Int) := by omega
  have hp0 : (0 : Int) ≤ (p : Int) := by omega
  obtain ⟨X, hX⟩ : ∃ X, s.extract p s.size = X := ⟨_, rfl⟩
  have hXd : X.data.toList = b :: t := by
    rw [← hX, ext_list s p s.size (Nat.le_refl _), h.rst, List.take_of_length_le]
    have := h.len; omega
  have hXs : X.size = t.length + 1 := by
    have h1 := congrArg List.length hXd
    simpa using h1
  have hXm : X.size ≤ maxLen := by have := h.len; have := h.sz; simp at *; omega
  have hX0 : (0 : Int) < (X.size : Int) := by omega
  have hXb : ∃ h0 : 0 < X.size, X[0] = b := by
    refine ⟨by omega, ?_⟩
    have h1 : X.data.toList[0]'(by simp; omega) = b := by simp [hXd]
    show X.data[0]'(by simpa using hXs ▸ Nat.succ_pos _) = b
    show X.data[0]'(by simpa using hXs ▸ Nat.succ_pos _) = b
    show X.data[0]'(by simpa using hXs ▸ Nat.succ_pos _) = b
    simpa using h1
  obtain ⟨hx0, hxb⟩ := hXb
  have HXB := Lib.hid hxb
  have HXD := Lib.hid hXd
  have HC := Lib.hid h
  have H1 := Lib.hid (fun v hv W => hasPrefix_is X ⟨#[60, 62]⟩ v hv W hXm (by decide))
  have H2 := Lib.hid (fun v hv W => hasPrefix_is X ⟨#[60, 61]⟩ v hv W hXm (by decide))
  have H3 := Lib.hid (fun v hv W => hasPrefix_is X ⟨#[62, 61]⟩ v hv W hXm (by decide))
  rw [hXd] at H1 H2 H3
  have e1 := pf2_eq 60 62 (b :: t)
  have e2 := pf2_eq 60 61 (b :: t)
  have e3 := pf2_eq 62 61 (b :: t)
  have hpl := h.len
  have hpt : p + 1 + t.length = s.size := by simp at hpl; omega
  have HP1 := Lib.hid (fun W => H1.out _ e1 W); have HP2 := Lib.hid (fun W => H2.out _ e2 W); have HP3 := Lib.hid (fun W => H3.out _ e3 W)
  have hdb : dblH (b :: t) = (pf2 60 62 (b :: t) || pf2 60 61 (b :: t) || pf2 62 61 (b :: t)) := rfl
  obtain ⟨iv, hiv⟩ : ∃ iv, Lib.indexByte [59, 44, 43, 45, 58, 40, 41, 61, 60, 62, 42, 47, 37] b = iv := ⟨_, rfl⟩
  have hix := idx_sgl b
  rw [hiv] at hix
  have HIX : Hid (∀ W, Calls Tryd.prog 52 #[.string ⟨#[59, 44, 43, 45, 58, 40, 41, 61, 60, 62, 42, 47, 37]⟩, .int .u8 ((X[0]'hx0).toNat : Int)] W fun e w' => e = .returned (.int .i64 iv) ∧ w' = W) := Lib.hid (fun W => by
    rw [hxb]
    refine (Tryd.strings_IndexByte ⟨#[59, 44, 43, 45, 58, 40, 41, 61, 60, 62, 42, 47, 37]⟩ (b.toNat : Int) W).mono ?_
    rintro e w' ⟨rfl, rfl⟩
    rw [byt_back]
    exact ⟨by rw [← hiv], rfl⟩)
  obtain ⟨v1, h1⟩ : ∃ v, pf2 60 62 (b :: t) = v := ⟨_, rfl⟩
  obtain ⟨v2, h2⟩ : ∃ v, pf2 60 61 (b :: t) = v := ⟨_, rfl⟩
  obtain ⟨v3, h3⟩ : ∃ v, pf2 62 61 (b :: t) = v := ⟨_, rfl⟩
  rw [h1, h2, h3] at hdb
  rw [h1] at HP1
  rw [h2] at HP2
  rw [h3] at HP3
  have hXsI : (X.size : Int) = (t.length : Int) + 1 := by omega
  clear H1 H2 H3 e1 e2 e3 h1 h2 h3 hiv hxb hpl
  obtain ⟨d, hd⟩ : ∃ d, dblH (b :: t) = d := ⟨_, rfl⟩
  rw [hd] at hdb
  cases d
  · obtain ⟨rfl, rfl, rfl⟩ : v1 = false ∧ v2 = false ∧ v3 = false := by
      revert hdb; cases v1 <;> cases v2 <;> cases v3 <;> simp
    rw [sym_one hd]
    clear hdb hd h
    obtain ⟨q, hq⟩ : ∃ q, sglB b = q := ⟨_, rfl⟩
    rw [hq] at hix ⊢
    clear hq
    cases q
    · simp only [Bool.false_eq_true, if_false]
      have d0 : decide (iv < 0) = true := hix
      clear hix
      go_enter Tryd.func42, Tryd.ntmps42
      go_wp2_with fail
      go_quiet (fail)
      clear hX
      go_wp2_with (first
          | (go_at_call 51; (with_reducible refine (HP1.out _).mono ?_); rintro e w1 ⟨rfl, rfl⟩)
          | (go_at_call 51; (with_reducible refine (HP2.out _).mono ?_); rintro e w1 ⟨rfl, rfl⟩)
          | (go_at_call 51; (with_reducible refine (HP3.out _).mono ?_); rintro e w1 ⟨rfl, rfl⟩)
          | (go_at_call 52; (with_reducible refine (HIX.out _).mono ?_); rintro e w1 ⟨rfl, rfl⟩))
      exact ⟨rfl, rfl, gr_dr _ _ _⟩
    · simp only [if_true]
      have d0 : decide (iv < 0) = false := hix
      have e1 : (1 : Int) ≤ (X.size : Int) := by omega
      skip
      clear hix
      go_enter Tryd.func42, Tryd.ntmps42
      go_wp2_with fail
      go_quiet (fail)
      generalize hW : World.drewN w _ = W4
      have HC4 : Hid (Cur W4 g s p (b :: t)) := Lib.hid (hW ▸ HC.out.drew _)
      have HG4 : Hid (w.grownBy W4 (some g)) := Lib.hid (hW ▸ gr_dr _ _ _)
      clear hX hW c0 c1 f0 f1
      obtain ⟨c0, c1, f0, f1⟩ := HC4.out.cells
      go_wp2_with (first
          | (go_at_call 51; (with_reducible refine (HP1.out _).mono ?_); rintro e w1 ⟨rfl, rfl⟩)
          | (go_at_call 51; (with_reducible refine (HP2.out _).mono ?_); rintro e w1 ⟨rfl, rfl⟩)
          | (go_at_call 51; (with_reducible refine (HP3.out _).mono ?_); rintro e w1 ⟨rfl, rfl⟩)
          | (go_at_call 52; (with_reducible refine (HIX.out _).mono ?_); rintro e w1 ⟨rfl, rfl⟩))
      go_ret
      refine ⟨X.extract 0 1, rfl, ?_, ?_, p + 1, ?_, gr_tr HG4.out (gr_set _ _ _ _)⟩
      · rw [ext_list X 0 1 (by omega), HXD.out]; rfl
      · rw [ByteArray.size_extract]; omega
      · have h5 := HC4.out.set 1 (by simp)
        first
          | exact h5
          | (simpa using h5)
  · obtain ⟨h2, hs2⟩ := sym_dbl hd
    rw [hs2]
    have ht1 : 1 ≤ t.length := by simp at h2; omega
    have e1 : (2 : Int) ≤ (X.size : Int) := by omega
    have hpz : (p : Int) + 2 ≤ (s.size : Int) := by omega
    skip
    have hcs : v1 = true ∨ (v1 = false ∧ v2 = true) ∨ (v1 = false ∧ v2 = false ∧ v3 = true) := by
      revert hdb; cases v1 <;> cases v2 <;> cases v3 <;> simp
    clear hdb hd hs2 h hix
    rcases hcs with rfl | ⟨rfl, rfl⟩ | ⟨rfl, rfl, rfl⟩
    all_goals
      go_enter Tryd.func42, Tryd.ntmps42
      go_wp2_with fail
      go_quiet (fail)
      generalize hW : World.drewN w _ = W4
      have HC4 : Hid (Cur W4 g s p (b :: t)) := Lib.hid (hW ▸ HC.out.drew _)
      have HG4 : Hid (w.grownBy W4 (some g)) := Lib.hid (hW ▸ gr_dr _ _ _)
      clear hX hW c0 c1 f0 f1
      obtain ⟨c0, c1, f0, f1⟩ := HC4.out.cells
      go_wp2_with (first
          | (go_at_call 51; (with_reducible refine (HP1.out _).mono ?_); rintro e w1 ⟨rfl, rfl⟩)
          | (go_at_call 51; (with_reducible refine (HP2.out _).mono ?_); rintro e w1 ⟨rfl, rfl⟩)
          | (go_at_call 51; (with_reducible refine (HP3.out _).mono ?_); rintro e w1 ⟨rfl, rfl⟩)
          | (go_at_call 52; (with_reducible refine (HIX.out _).mono ?_); rintro e w1 ⟨rfl, rfl⟩))
      go_ret
      refine ⟨X.extract 0 2, rfl, ?_, ?_, p + 2, ?_, gr_tr HG4.out (gr_set _ _ _ _)⟩
      · rw [ext_list X 0 2 (by omega), HXD.out]; rfl
      · rw [ByteArray.size_extract]; omega
      · have h5 := HC4.out.set 2 (by simpa using ht1)
        first
          | exact h5
          | (simpa using h5)
end Go.Proofs.YtkdimbpmgngajaaDoor.Lx
