/- Walks: checkStep, the closure of Steps, examine over steps, Steps. -/
import Derived.Test.YtcjceecdcjjnfaaCkA
namespace Go.Proofs.Ytcjceecdcjjnfaa.Ck
open Go Go.Lib Go.RowKit Go.Proofs.Ytcjceecdcjjnfaa

def Sp.cells (s : Sp) : Array Value := #[.int .i64 s.up, .int .i64 s.qu, .int .i64 s.pr]
/-- A slice that reads as a list of steps. -/
def SpR (w : World) (A : Option Addr) (l : List Sp) : Prop := ∀ k, k < l.length → ∃ b off, A = some ⟨b, off, none⟩ ∧ b < w.heap.size ∧ w.cell? ⟨b, off + k * 3, none⟩ = some (.int .i64 (l.getD k sp0).up) ∧ w.cell? ⟨b, off + k * 3 + 1, none⟩ = some (.int .i64 (l.getD k sp0).qu) ∧ w.cell? ⟨b, off + k * 3 + 2, none⟩ = some (.int .i64 (l.getD k sp0).pr)
theorem SpR.nil (w : World) (A : Option Addr) : SpR w A [] := fun k hk => absurd hk (Nat.not_lt_zero k)
theorem SpR.below {w w' : World} {A : Option Addr} {l : List Sp} {B : Nat} (h : SpR w A l) (hb : Below B w w') (hB : B = w.heap.size) : SpR w' A l := fun k hk => by
  subst hB
  obtain ⟨b, off, e, h1, h2, h3, h4⟩ := h k hk
  exact ⟨b, off, e, Nat.lt_of_lt_of_le h1 hb.size, (hb.cell (p := ⟨b, off + k * 3, none⟩) h1).trans h2, (hb.cell (p := ⟨b, off + k * 3 + 1, none⟩) h1).trans h3, (hb.cell (p := ⟨b, off + k * 3 + 2, none⟩) h1).trans h4⟩
theorem gr_set (w : World) (g i : Nat) (u : Value) : w.grownBy (w.setCell ⟨g, i, none⟩ u) (some g) :=
  ⟨rfl, rfl, rfl, by simp [World.setCell], fun k _ hk => Below.heap_setCell _ _ _ _ (fun e => hk (by rw [e]))⟩
theorem gr_below {w w' : World} {row : Option Nat} (hb : Below w.heap.size w w') : w.grownBy w' row := ⟨hb.os, hb.tape, hb.output, hb.size, fun i hi _ => hb.block i hi⟩
theorem gr_refl (w : World) (row : Option Nat) : w.grownBy w row := ⟨rfl, rfl, rfl, Nat.le_refl _, fun _ _ _ => rfl⟩
theorem gr_tr {a b c : World} {row : Option Nat} (h : a.grownBy b row) (k : b.grownBy c row) : a.grownBy c row :=
  ⟨k.os.trans h.os, k.tape.trans h.tape, k.output.trans h.output, Nat.le_trans h.size k.size, fun i hi hr => (k.block i (Nat.lt_of_lt_of_le hi h.size) hr).trans (h.block i hi hr)⟩
/-- What only reaches a block that came later leaves what lies below it. -/
theorem gr_own {a w w' : World} {g : Nat} (hb : Below a.heap.size a w) (hg : a.heap.size ≤ g) (h : w.grownBy w' (some g)) : Below a.heap.size a w' :=
  ⟨h.os.trans hb.os, h.tape.trans hb.tape, h.output.trans hb.output, Nat.le_trans hb.size h.size, fun i hi => (h.block i (Nat.lt_of_lt_of_le hi hb.size) (fun e => by have := Option.some.inj e; omega)).trans (hb.block i hi)⟩

set_option maxRecDepth 100000 in
set_option maxHeartbeats 8000000 in
theorem checkStep_any (s : Sp) (b : Int) (last : Bool) (w : World) : Calls Try.prog 28 #[.agg s.cells, .int .i64 b, .bool last] w fun e w' => e = .returned (.int .i64 (spE b last s)) ∧ Below w.heap.size w w' := by
  obtain ⟨up, qu, pr⟩ := s
  obtain ⟨v0, h0⟩ : ∃ v, inB up 0 1099511627776 = v := ⟨_, rfl⟩
  obtain ⟨v1, h1⟩ : ∃ v, inB qu 1 1099511627776 = v := ⟨_, rfl⟩
  obtain ⟨v2, h2⟩ : ∃ v, inB pr 0 1125899906842624 = v := ⟨_, rfl⟩
  obtain ⟨z, hz⟩ : ∃ v, decide (up = 0) = v := ⟨_, rfl⟩
  obtain ⟨o, ho⟩ : ∃ v, decide (up ≤ b) = v := ⟨_, rfl⟩
  have HV : Hid (spE b last ⟨up, qu, pr⟩ = spV v0 v1 v2 last z o) := Lib.hid (by unfold spE; rw [h0, h1, h2, hz, ho])
  have H0 := Lib.hid h0; have H1 := Lib.hid h1; have H2 := Lib.hid h2
  have hz2 : (up == 0) = z := by rw [← hz]; cases h : decide (up = 0) <;> simp_all
  have hB := Blk.new w 37 #[.int .i64 up, .int .i64 qu, .int .i64 pr]
  have HB := Lib.hid (below_one w (.cells #[.int .i64 up, .int .i64 qu, .int .i64 pr] 37))
  have c0 := hB.cell 0; have c1 := hB.cell 1; have c2 := hB.cell 2
  clear h0 h1 h2 hz hB
  simp only [Sp.cells]
  cases v0
  · go_enter Try.func28, Try.ntmps28
    go_wp2_with (go_at_call 23; (with_reducible refine (within_is H0.out _).mono ?_); rintro e w1 ⟨rfl, rfl⟩)
    go_ret
    exact ⟨ret_i HV.out.symm, HB.out⟩
  cases v1
  · go_enter Try.func28, Try.ntmps28
    go_wp2_with (go_at_call 23; (first | (with_reducible refine (within_is H0.out _).mono ?_) | (with_reducible refine (within_is H1.out _).mono ?_)); rintro e w1 ⟨rfl, rfl⟩)
    go_ret
    exact ⟨ret_i HV.out.symm, HB.out⟩
  cases v2
  · go_enter Try.func28, Try.ntmps28
    go_wp2_with (go_at_call 23; (first | (with_reducible refine (within_is H0.out _).mono ?_) | (with_reducible refine (within_is H1.out _).mono ?_) | (with_reducible refine (within_is H2.out _).mono ?_)); rintro e w1 ⟨rfl, rfl⟩)
    go_ret
    exact ⟨ret_i HV.out.symm, HB.out⟩
  cases last <;> cases z <;> cases o
  all_goals
    go_enter Try.func28, Try.ntmps28
    go_wp2_with (go_at_call 23; (first | (with_reducible refine (within_is H0.out _).mono ?_) | (with_reducible refine (within_is H1.out _).mono ?_) | (with_reducible refine (within_is H2.out _).mono ?_)); rintro e w1 ⟨rfl, rfl⟩)
    go_ret
    exact ⟨ret_i HV.out.symm, HB.out⟩
theorem checkStep_is {s : Sp} {b : Int} {last : Bool} {v : Int} (h : spE b last s = v) (w : World) : Calls Try.prog 28 #[.agg s.cells, .int .i64 b, .bool last] w fun e w' => e = .returned (.int .i64 v) ∧ Below w.heap.size w w' := by
  subst h; exact checkStep_any s b last w
set_option maxRecDepth 100000 in
set_option maxHeartbeats 8000000 in
/-- The closure of Steps. -/
theorem steps1_any (s : Sp) (b : Int) (k n c g p : Nat) (A : Option Addr) (last : Bool) (hn1 : 1 ≤ n) (hn64 : n ≤ 64) (hl : decide (k + 1 = n) = last) (v : Int) (hv : spE b last s = v) (w : World) (hg : Blk w g 3 #[.int .i64 b]) (hp : Blk w p 22 #[.slice A n c]) (hgp : g ≠ p) :
    Calls Try.prog 27 #[.int .i64 k, .agg s.cells, .pointer (some ⟨g, 0, none⟩), .pointer (some ⟨p, 0, none⟩)] w fun e w' => e = .returned (.int .i64 v) ∧ Blk w' g 3 #[.int .i64 s.up] ∧ w.grownBy w' (some g) := by
  obtain ⟨up, qu, pr⟩ := s
  have HC := Lib.hid (checkStep_is hv)
  have hl2 : ((k : Int) == (n : Int) - 1) = last := by
    rw [← hl]
    by_cases h : k + 1 = n
    · rw [decide_eq_true h, beq_iff_eq]; omega
    · rw [decide_eq_false h, beq_eq_false_iff_ne]; omega
  obtain ⟨W, hW⟩ : ∃ W, w.alloc (.cells #[.int .i64 up, .int .i64 qu, .int .i64 pr] 37) = W := ⟨_, rfl⟩
  obtain ⟨q, hq⟩ : ∃ q, w.heap.size = q := ⟨_, rfl⟩
  have hB : Blk W q 37 #[.int .i64 up, .int .i64 qu, .int .i64 pr] := hW ▸ hq ▸ Blk.new w _ _
  have hGW : w.grownBy W (some g) := hW ▸ World.grownBy_alloc w _ _
  have hg1 : Blk W g 3 #[.int .i64 b] := hW ▸ hg.alloc _
  have hp1 : Blk W p 22 #[.slice A n c] := hW ▸ hp.alloc _
  have c0 := hB.cell 0; have c1 := hB.cell 1; have c2 := hB.cell 2
  have d0 := hg1.cell 0; have e0 := hp1.cell 0
  have hqg : q ≠ g := by rw [← hq]; exact Nat.ne_of_gt hg.lt
  have HB := Lib.hid hB; have HG1 := Lib.hid hg1; have HGW := Lib.hid hGW; have HQG := Lib.hid hqg
  simp only [Sp.cells] at HC ⊢
  clear hB hg1 hp1 hGW hg hp hl hv hqg
  go_enter Try.func27, Try.ntmps27
  go_wp2_with (go_at_call 28; go_loud ((with_reducible refine (HC.out _).mono ?_); rintro e w1 ⟨rfl, hb1⟩; have HB1 := Lib.hid hb1; have HBq := Lib.hid (HB.out.below hb1 HB.out.lt); have HGg := Lib.hid (HG1.out.below hb1 HG1.out.lt); clear c0 c1 c2 d0 e0 hb1; obtain ⟨c0, c1, c2⟩ := (show _ ∧ _ ∧ _ from ⟨HBq.out.cell 0, HBq.out.cell 1, HBq.out.cell 2⟩); have d0 := HGg.out.cell 0; have z0 := HGg.out.frozen 0))
  go_ret
  exact ⟨rfl, HGg.out.set_ 0 _, gr_tr HGW.out (gr_tr (gr_below HB1.out) (gr_set _ _ _ _))⟩
/-- The state of a closure that looks at steps: what was seen before, beside the list. -/
def StI (w0 : World) (A : Option Addr) (n c g p : Nat) (l : List Sp) (k : Nat) (w : World) : Prop := Blk w g 3 #[.int .i64 (prv l k)] ∧ Blk w p 22 #[.slice A n c] ∧ w0.grownBy w (some g)
set_option maxRecDepth 100000 in
set_option maxHeartbeats 8000000 in
theorem examineS_any (A : Option Addr) (n c g p : Nat) (l : List Sp) (w : World) (hA : SpR w A l) (hAg : ∀ a, A = some a → 0 < n → a.block < g) (hgp : p < g) (hn : l.length = n) (hc : n ≤ c) (hm : c ≤ maxLen) (hn0 : 1 ≤ n) (hg : Blk w g 3 #[.int .i64 0]) (hp : Blk w p 22 #[.slice A n c]) :
    Calls Try.prog 26 #[.func (.func 27) #[] #[.pointer (some ⟨g, 0, none⟩), .pointer (some ⟨p, 0, none⟩)], .slice A n c] w fun e w' => e = .returned (.int .i64 (stepsE l)) ∧ w.grownBy w' (some g) := by
  unfold maxLen at hm
  by_cases h64 : 64 < n
  · have d1 : decide ((64 : Int) < (n : Int)) = true := decide_eq_true (by omega)
    have HR : Hid (stepsE l = 5) := Lib.hid (by unfold stepsE; rw [if_neg (by omega), if_pos (by omega)])
    clear hA hn h64 hg hp
    go_enter Try.func26, Try.ntmps26
    go_wp2_with fail
    go_ret
    exact ⟨ret_i HR.out.symm, gr_refl _ _⟩
  · have d1 : decide ((64 : Int) < (n : Int)) = false := decide_eq_false (by omega)
    have hn64 : n ≤ 64 := by omega
    have HV : Hid (stepsE l = fstN (spAt l) 0 n) := Lib.hid (by unfold stepsE; rw [if_neg (by omega), if_neg (by omega), hn])
    have HA := Lib.hid hA; have HN := Lib.hid hn; have HAG := Lib.hid hAg; have HGP := Lib.hid (show g ≠ p by omega)
    have HS0 : Hid (StI w A n c g p l 0 w) := Lib.hid ⟨hg, hp, gr_refl _ _⟩
    clear hA hn hAg hgp hg hp h64
    go_enter Try.func26, Try.ntmps26
    go_wp2_with fail
    clear d1
    go_loopw [13] (fun iv wr => ∃ (k : Nat), iv = .int .i64 k ∧ k ≤ n ∧ Hid (StI w A n c g p l k wr) ∧ Hid (fstN (spAt l) k (n - k) = stepsE l)) (fun iv _ => n - (RowKit.intOf iv).toNat)
    case atStart => exact ⟨0, rfl, by omega, HS0, Lib.hid HV.out.symm⟩
    case round =>
      obtain ⟨k, rfl, hk, HS, HF⟩ := hrel
      by_cases hlt : k < n
      · have hkl : k < l.length := by rw [HN.out]; exact hlt
        have hlt' : (k : Int) < (n : Int) := by omega
        obtain ⟨bk, off, hAe, hbl, g0, g1, g2⟩ := HA.out k hkl
        have hbg : bk < g := HAG.out ⟨bk, off, none⟩ hAe (by omega)
        have HKB : Hid (∀ o, wr.cell? ⟨bk, o, none⟩ = w.cell? ⟨bk, o, none⟩) := Lib.hid (fun o => World.cell?_of_block (a := ⟨bk, o, none⟩) (HS.out.2.2.block bk hbl (fun e => by have := Option.some.inj e; omega)))
        subst hAe
        have e0 := (HKB.out _).trans g0; have e1 := (HKB.out _).trans g1; have e2 := (HKB.out _).trans g2
        obtain ⟨⟨up, qu, pr⟩, hp⟩ : ∃ r, l.getD k sp0 = r := ⟨_, rfl⟩
        rw [hp] at e0 e1 e2
        simp only at e0 e1 e2
        obtain ⟨v, hv⟩ : ∃ v, spAt l k = v := ⟨_, rfl⟩
        have hf := HF.out
        rw [fstN_next hlt, hv] at hf
        have HP := Lib.hid hp; have HF2 := Lib.hid hf
        have hpv : prv l (k + 1) = up := by unfold prv; rw [if_neg (by omega), show k + 1 - 1 = k by omega, hp]
        have HPV := Lib.hid hpv
        obtain ⟨W, hW⟩ : ∃ W, wr.alloc (.cells #[.int .i64 up, .int .i64 qu, .int .i64 pr] 37) = W := ⟨_, rfl⟩
        obtain ⟨q, hq⟩ : ∃ q, wr.heap.size = q := ⟨_, rfl⟩
        have hB : Blk W q 37 #[.int .i64 up, .int .i64 qu, .int .i64 pr] := hW ▸ hq ▸ Blk.new wr _ _
        have c0 := hB.cell 0; have c1 := hB.cell 1; have c2 := hB.cell 2
        have HS1 : Hid (StI w (some ⟨bk, off, none⟩) n c g p l k W) := Lib.hid ⟨hW ▸ HS.out.1.alloc _, hW ▸ HS.out.2.1.alloc _, hW ▸ gr_tr HS.out.2.2 (World.grownBy_alloc wr _ _)⟩
        have HST := Lib.hid (steps1_any ⟨up, qu, pr⟩ (prv l k) k n c g p (some ⟨bk, off, none⟩) _ hn0 hn64 rfl v (by rw [← hv]; unfold spAt; rw [hp, HN.out]) W HS1.out.1 HS1.out.2.1 HGP.out)
        simp only [Sp.cells] at HST
        clear hp g0 g1 g2 hv hf hB hpv hkl hbl hbg HF HV
        by_cases h0 : v = 0
        · subst h0
          rw [if_pos rfl] at HF2
          go_wp2_with (go_at_call 27; (with_reducible refine HST.out.mono ?_); rintro e w1 ⟨rfl, hx, hy⟩; have HS2 : Hid (StI w (some ⟨bk, off, none⟩) n c g p l (k + 1) w1) := Lib.hid ⟨HPV.out ▸ hx, HS1.out.2.1.grown hy (fun e => HGP.out (Option.some.inj e).symm), gr_tr HS1.out.2.2 hy⟩; clear hx hy c0 c1 c2)
          go_roundw
          case rel => exact ⟨k + 1, by go_num, by omega, HS2, HF2⟩
          case measure => simp [RowKit.intOf]; omega
        · have d0 : (v == 0) = false := by rw [beq_eq_false_iff_ne]; exact h0
          rw [if_neg h0] at HF2
          clear h0
          go_wp2_with (go_at_call 27; (with_reducible refine HST.out.mono ?_); rintro e w1 ⟨rfl, hx, hy⟩; have HS2 := Lib.hid (gr_tr HS1.out.2.2 hy); clear hx hy c0 c1 c2)
          go_ret
          exact ⟨ret_i HF2.out, HS2.out⟩
      · obtain rfl : k = n := by omega
        have HR : Hid (stepsE l = 0) := Lib.hid (by rw [← HF.out, fstN_end])
        clear HF HV
        go_wp2_with fail
        go_ret
        exact ⟨ret_i HR.out.symm, HS.out.2.2⟩
set_option maxRecDepth 100000 in
set_option maxHeartbeats 8000000 in
theorem steps_any (A : Option Addr) (n c : Nat) (l : List Sp) (w : World) (hA : SpR w A l) (hn : l.length = n) (hc : n ≤ c) (hm : c ≤ maxLen) :
    Calls Try.prog 18 #[.slice A n c] w fun e w' => e = .returned (.int .i64 (stepsE l)) ∧ Below w.heap.size w w' := by
  by_cases h0 : n = 0
  · subst h0
    have HR : Hid (stepsE l = 8) := Lib.hid (by unfold stepsE; rw [if_pos hn])
    have HB := Lib.hid (below_one w (.cells #[.slice A 0 c] 22))
    have c0 := (Blk.new w 22 #[.slice A 0 c]).cell 0
    clear hA hn
    go_enter Try.func18, Try.ntmps18
    go_wp2_with fail
    go_ret
    exact ⟨ret_i HR.out.symm, HB.out⟩
  · have d0 : ((n : Int) == 0) = false := by rw [beq_eq_false_iff_ne]; omega
    obtain ⟨p, hp⟩ : ∃ p, w.heap.size = p := ⟨_, rfl⟩
    obtain ⟨W1, hW1⟩ : ∃ W, w.alloc (.cells #[.slice A n c] 22) = W := ⟨_, rfl⟩
    have hB1 : Blk W1 p 22 #[.slice A n c] := hW1 ▸ hp ▸ Blk.new w _ _
    obtain ⟨g, hg⟩ : ∃ g, W1.heap.size = g := ⟨_, rfl⟩
    have hgp : g = p + 1 := by rw [← hg, ← hW1, ← hp]; simp
    have hB2 : Blk (W1.alloc (.cells #[.int .i64 0] 3)) g 3 #[.int .i64 0] := hg ▸ Blk.new W1 _ _
    have hb2 : Below w.heap.size w (W1.alloc (.cells #[.int .i64 0] 3)) := (hW1 ▸ below_one w _ : Below w.heap.size w W1).alloc (by rw [← hW1]; simp) _
    have c0 := hB1.cell 0
    have hB12 : Blk (W1.alloc (.cells #[.int .i64 0] 3)) p 22 #[.slice A n c] := hB1.alloc _
    have c02 := hB12.cell 0
    have HE := Lib.hid (examineS_any A n c g p l (W1.alloc (.cells #[.int .i64 0] 3)) (hA.below hb2 rfl) (fun a ha h => by obtain ⟨b, off, e, h1, _⟩ := hA 0 (by omega); rw [ha] at e; rw [Option.some.inj e]; show b < g; omega) (by omega) hn hc hm (by omega) hB2 hB12)
    have HGP := Lib.hid (show w.heap.size ≤ g by omega)
    have HB2 := Lib.hid hb2
    clear hA hn hB1 hB2 hb2 hB12 h0 hgp
    go_enter Try.func18, Try.ntmps18
    go_wp2_with (go_at_call 26; (with_reducible refine HE.out.mono ?_); rintro e w3 ⟨rfl, hgr⟩; have HB3 := Lib.hid (gr_own HB2.out HGP.out hgr); clear hgr)
    go_ret
    exact ⟨rfl, HB3.out⟩
end Go.Proofs.Ytcjceecdcjjnfaa.Ck
