/- Walks of the reference: Symbols, symbol. -/
import Derived.Test.YtkdimbpmgngajaaDoorLxRt
import Derived.Test.YtkdimbpmgngajaaDoorLxRh
namespace Go.Proofs.YtkdimbpmgngajaaDoor.Lx
open Go Go.Lib Go.RowKit Go.Proofs.YtkdimbpmgngajaaDoor Go.Maps

def syW : List Wd := [[60, 62], [60, 61], [62, 61], [59], [44], [43], [45], [58], [40], [41], [61], [60], [62], [42], [47], [37]]
def syL : List ByteArray := syW.map fun x => ⟨⟨x⟩⟩
def pfx (y r : Wd) : Bool := r.take y.length == y
theorem pfx_two (b c : UInt8) (r : Wd) : pfx [b, c] r = pf2 b c r := by
  unfold pfx pf2
  match r with
  | [] => rfl
  | [x] => simp
  | x :: y :: t => simp [Bool.beq_eq_decide_eq, List.take]
theorem pfx_one (b c : UInt8) (t : Wd) : pfx [c] (b :: t) = (b == c) := by
  unfold pfx; simp [List.take]
/-- The first symbol that a text begins with. -/
theorem sym_first {b : UInt8} {t : Wd} {k : Nat} (hk : k < 16) (h : pfx (syW.getD k []) (b :: t) = true) (hn : ∀ j, j < k → pfx (syW.getD j []) (b :: t) = false) : symT (b :: t) = .ok (syW.getD k [], (b :: t).drop (syW.getD k []).length) := by
  have two : ∀ x y : UInt8, pfx [x, y] (b :: t) = true → dblH (b :: t) = true → symT (b :: t) = .ok ([x, y], (b :: t).drop 2) := fun x y h hd => by
    obtain ⟨-, h2⟩ := sym_dbl hd
    rw [h2]
    unfold pfx at h
    rw [show (b :: t).take 2 = [x, y] from eq_of_beq h]
  rcases Nat.lt_or_ge k 3 with h3 | h3
  · match k, h3 with
    | 0, _ => exact two _ _ h (by unfold dblH; rw [← pfx_two]; rw [show pfx [60, 62] (b :: t) = true from h]; rfl)
    | 1, _ => exact two _ _ h (by unfold dblH; rw [← pfx_two 60 61]; rw [show pfx [60, 61] (b :: t) = true from h]; simp)
    | 2, _ => exact two _ _ h (by unfold dblH; rw [← pfx_two 62 61]; rw [show pfx [62, 61] (b :: t) = true from h]; simp)
  · have hd : dblH (b :: t) = false := by
      unfold dblH
      rw [← pfx_two, ← pfx_two, ← pfx_two]
      rw [show pfx [60, 62] (b :: t) = false from hn 0 (by omega), show pfx [60, 61] (b :: t) = false from hn 1 (by omega), show pfx [62, 61] (b :: t) = false from hn 2 (by omega)]; rfl
    rw [sym_one hd]
    have one : ∀ c : UInt8, sglB c = true → pfx [c] (b :: t) = true → (if sglB b = true then Except.ok ([b], t) else Except.error 1) = (.ok ([c], (b :: t).drop 1) : Except Nat (Wd × Wd)) := fun c hc h => by
      rw [pfx_one] at h
      rw [eq_of_beq h, if_pos hc]; rfl
    match k, hk, h3 with
    | 3, _, _ => exact one _ (by decide) h
    | 4, _, _ => exact one _ (by decide) h
    | 5, _, _ => exact one _ (by decide) h
    | 6, _, _ => exact one _ (by decide) h
    | 7, _, _ => exact one _ (by decide) h
    | 8, _, _ => exact one _ (by decide) h
    | 9, _, _ => exact one _ (by decide) h
    | 10, _, _ => exact one _ (by decide) h
    | 11, _, _ => exact one _ (by decide) h
    | 12, _, _ => exact one _ (by decide) h
    | 13, _, _ => exact one _ (by decide) h
    | 14, _, _ => exact one _ (by decide) h
    | 15, _, _ => exact one _ (by decide) h
    | n + 16, hk, _ => exact absurd hk (by omega)
theorem sym_never {b : UInt8} {t : Wd} (hn : ∀ j, j < 16 → pfx (syW.getD j []) (b :: t) = false) : symT (b :: t) = .error 1 := by
  have hd : dblH (b :: t) = false := by
    unfold dblH
    rw [← pfx_two, ← pfx_two, ← pfx_two]
    rw [show pfx [60, 62] (b :: t) = false from hn 0 (by omega), show pfx [60, 61] (b :: t) = false from hn 1 (by omega), show pfx [62, 61] (b :: t) = false from hn 2 (by omega)]; rfl
  rw [sym_one hd, if_neg]
  unfold sglB
  rw [List.contains_iff_mem]
  intro h
  have one : ∀ j, j < 16 → ∀ c, syW.getD j [] = [c] → b ≠ c := fun j hj c hc e => by
    have h1 := hn j hj
    rw [hc, pfx_one, e] at h1
    simp at h1
  simp only [List.mem_cons, List.not_mem_nil, or_false] at h
  rcases h with h | h | h | h | h | h | h | h | h | h | h | h | h
  · exact one 3 (by omega) _ rfl h
  · exact one 4 (by omega) _ rfl h
  · exact one 5 (by omega) _ rfl h
  · exact one 6 (by omega) _ rfl h
  · exact one 7 (by omega) _ rfl h
  · exact one 8 (by omega) _ rfl h
  · exact one 9 (by omega) _ rfl h
  · exact one 10 (by omega) _ rfl h
  · exact one 11 (by omega) _ rfl h
  · exact one 12 (by omega) _ rfl h
  · exact one 13 (by omega) _ rfl h
  · exact one 14 (by omega) _ rfl h
  · exact one 15 (by omega) _ rfl h
theorem syL_at {k : Nat} (h : k < 16) : (syL.getD k sS0).data.toList = syW.getD k [] ∧ 1 ≤ (syL.getD k sS0).size ∧ (syL.getD k sS0).size ≤ 2 := by
  have : ∀ k : Fin 16, (syL.getD k.val sS0).data.toList = syW.getD k.val [] ∧ 1 ≤ (syL.getD k.val sS0).size ∧ (syL.getD k.val sS0).size ≤ 2 := by decide
  exact this ⟨k, h⟩
theorem pfx_short {y r : Wd} (h : r.length < y.length) : pfx y r = false := by
  unfold pfx
  rw [beq_eq_false_iff_ne]
  intro e
  have := congrArg List.length e
  rw [List.length_take] at this; omega
theorem pfx_ext {s Y : ByteArray} {p m : Nat} {r : Wd} (hr : s.data.toList.drop p = r) (hm : p + Y.size = m) (hs : m ≤ s.size) : ((s.extract p m).toList == Y.toList) = pfx Y.data.toList r := by
  rw [ByteArray.toList_eq, ByteArray.toList_eq, ext_list s p m hs, hr]
  unfold pfx
  rw [show m - p = Y.data.toList.length by simp; omega]
set_option maxRecDepth 100000 in
theorem symbols_any (w : World) : Calls Tryd.prog 44 #[] w fun e w' => ∃ b, e = .returned (.slice (some ⟨b, 0, none⟩) 16 16) ∧ b < w'.heap.size ∧ SsR w' (some ⟨b, 0, none⟩) syL ∧ Below w.heap.size w w' := by
  have HL := Lib.hid (SsR.lit w syL 9)
  have HB := Lib.hid (below_one w (.cells (syL.map Value.string).toArray 9))
  go_enter Tryd.func44, Tryd.ntmps44
  go_wp2_with fail
  go_ret
  exact ⟨w.heap.size, rfl, by simp, HL.out, HB.out⟩
set_option maxRecDepth 100000 in
set_option maxHeartbeats 16000000 in
theorem refSymbol_any (s : ByteArray) (w : World) (hs : s.size ≤ 65536) {p : Nat} {b : UInt8} {t : Wd} (hp : p < s.size) (hr : s.data.toList.drop p = b :: t) : Calls Tryd.prog 33 #[.string s, .int .i64 p] w (RfO w s p (tag 4 (symT (b :: t)))) := by
  obtain ⟨R, hR⟩ : ∃ R, w.heap.size = R := ⟨_, rfl⟩
  have hB0 : Below w.heap.size w (w.alloc (.cells #[.int .i64 0, .int .i64 0, .int .i64 0, .string ⟨#[]⟩] 30)) := below_one w _
  have hT0 : TkB (w.alloc (.cells #[.int .i64 0, .int .i64 0, .int .i64 0, .string ⟨#[]⟩] 30)) w.heap.size 0 0 0 ⟨#[]⟩ := TkB.new w 0 0 0 ⟨#[]⟩
  rw [hR] at hT0
  have HRR := Lib.hid hR
  have hp0 : (0 : Int) ≤ (p : Int) := by omega
  have HR := Lib.hid hr
  have hrl : p + (t.length + 1) = s.size := by
    have := congrArg List.length hr
    rw [List.length_drop] at this
    simp at this; omega
  have HRL := Lib.hid hrl
  have HB0 := Lib.hid hB0
  have HT0 := Lib.hid hT0
  go_enter Tryd.func33, Tryd.ntmps33
  go_wp2_with (go_at_call 44; (with_reducible refine (symbols_any _).mono ?_); rintro e w1 ⟨y, rfl, hy, hS, hb1⟩; have HBW := Lib.hid (HB0.out.trans (hb1.mono HB0.out.size)); have HRT := Lib.hid (HT0.out.below hb1); have HSS := Lib.hid hS; clear hb1 hS hy)
  clear hB0 hT0 hr hrl HB0 HT0
  go_loopw [8] (fun iv wr => ∃ k : Nat, iv = .int .i64 k ∧ k ≤ 16 ∧ Hid (TkB wr R 0 0 0 ⟨#[]⟩) ∧ Hid (SsR wr (some ⟨y, 0, none⟩) syL) ∧ Hid (Below w.heap.size w wr) ∧ Hid (∀ j, j < k → pfx (syW.getD j []) (b :: t) = false)) (fun iv _ => 16 - (RowKit.intOf iv).toNat)
  case atStart => exact ⟨0, rfl, by omega, HRT, HSS, HBW, Lib.hid fun j h => absurd h (Nat.not_lt_zero j)⟩
  case round =>
    obtain ⟨k, rfl, hk, HT, HS, HB, HN⟩ := hrel
    clear HRT HSS HBW
    by_cases hlt : k < 16
    · have hlt' : (k : Int) < (16 : Int) := by omega
      have hk0 : (0 : Int) ≤ (k : Int) := by omega
      obtain ⟨b', hbe, e0⟩ := HS.out k (show k < 16 from hlt)
      obtain rfl : y = b' := by injection hbe with h; injection h
      clear hbe
      obtain ⟨hYd, hY1, hY2⟩ := syL_at hlt
      obtain ⟨Y, hY⟩ : ∃ Y, syL.getD k sS0 = Y := ⟨_, rfl⟩
      rw [hY] at hYd hY1 hY2 e0
      have HYD := Lib.hid hYd
      have hYi : (p : Int) + (Y.size : Int) ≤ 9223372036854775807 := by omega
      clear hY hYd
      obtain ⟨v, hv⟩ : ∃ v, pfx Y.data.toList (b :: t) = v := ⟨_, rfl⟩
      have hYn : (Y.size : Int) ≤ 2 := by omega
      have HN2 : v = false → Hid (∀ j, j < k + 1 → pfx (syW.getD j []) (b :: t) = false) := fun h0 => Lib.hid fun j h => by
        rcases Nat.lt_or_ge j k with h | h
        · exact HN.out j h
        · obtain rfl : j = k := by omega
          rw [← HYD.out, hv]; exact h0
      by_cases hfit : p + Y.size ≤ s.size
      · obtain ⟨m, hm⟩ : ∃ m, p + Y.size = m := ⟨_, rfl⟩
        have hmi : (p : Int) + (Y.size : Int) = (m : Int) := by omega
        have hms : (m : Int) ≤ (s.size : Int) := by omega
        have hpm : (p : Int) ≤ (m : Int) := by omega
        have hx := pfx_ext HR.out hm (by omega)
        rw [hv] at hx
        have HV := Lib.hid hv
        have HM := Lib.hid hm
        clear hv hm hfit
        cases v
        · have HN3 := HN2 rfl
          clear HN2
          go_wp2_with fail
          go_quiet (fail)
          generalize hWW : World.drewN wr _ = W4
          have HT4 : Hid (TkB W4 R 0 0 0 ⟨#[]⟩) := Lib.hid (hWW ▸ HT.out)
          have HS4 : Hid (SsR W4 (some ⟨y, 0, none⟩) syL) := Lib.hid (hWW ▸ HS.out)
          have HB4 : Hid (Below w.heap.size w W4) := Lib.hid (hWW ▸ below_drewN HB.out _)
          clear hWW e0
          go_wp2_with fail
          go_roundw
          case rel => exact ⟨k + 1, by go_num, by omega, HT4, HS4, HB4, HN3⟩
          case measure => simp [RowKit.intOf]; omega
        · have HE : Hid (symT (b :: t) = .ok (syW.getD k [], (b :: t).drop (syW.getD k []).length)) := Lib.hid (sym_first hlt (by rw [← HYD.out]; exact HV.out) HN.out)
          clear HN2
          go_wp2_with fail
          go_quiet (fail)
          generalize hWW : World.drewN wr _ = W4
          have HT4 : Hid (TkB W4 R 0 0 0 ⟨#[]⟩) := Lib.hid (hWW ▸ HT.out)
          have HS4 : Hid (SsR W4 (some ⟨y, 0, none⟩) syL) := Lib.hid (hWW ▸ HS.out)
          have HB4 : Hid (Below w.heap.size w W4) := Lib.hid (hWW ▸ below_drewN HB.out _)
          have e1 : W4.cell? ⟨y, k, none⟩ = some (.string Y) := hWW ▸ e0
          clear hWW e0
          obtain ⟨⟨t0, t1, t2, t3⟩, u0, u1, u2, u3⟩ := HT4.out.cells
          go_wp2_with fail
          refine bodyPost_ret (v := .tuple #[.agg #[.int .i64 4, .int .i64 0, .int .i64 p, .string Y], .int .i64 m, .int .i64 0]) (results_cell3 (p := 4) (u := 5) (t := 6) rfl _ _ R 30 #[.int .i64 4, .int .i64 0, .int .i64 p, .string Y] (0, 0) _ rfl (tk_put HT4.out _ _ _ _) Tryd.underlying30 rfl rfl) rfl ?_
          rw [HE.out]
          refine ret_ok ?_ ?_ HYD.out rfl (below_put HB4.out HRR.out _ _ _ _)
          · rw [List.length_drop, ← HYD.out]
            have h1 := HM.out
            have h2 := HRL.out
            simp; omega
          · rw [← HR.out, List.drop_drop, ← HYD.out, ← HM.out]; simp
      · have hfi : decide ((p : Int) + (Y.size : Int) ≤ (s.size : Int)) = false := decide_eq_false (by omega)
        have hv0 : v = false := by rw [← hv]; exact pfx_short (by have := HRL.out; simp; omega)
        have HN3 := HN2 hv0
        clear HN2 hv hv0 hfit
        go_wp2_with fail
        go_quiet (fail)
        generalize hWW : World.drewN wr _ = W4
        have HT4 : Hid (TkB W4 R 0 0 0 ⟨#[]⟩) := Lib.hid (hWW ▸ HT.out)
        have HS4 : Hid (SsR W4 (some ⟨y, 0, none⟩) syL) := Lib.hid (hWW ▸ HS.out)
        have HB4 : Hid (Below w.heap.size w W4) := Lib.hid (hWW ▸ below_drewN HB.out _)
        clear hWW e0
        go_wp2_with fail
        go_roundw
        case rel => exact ⟨k + 1, by go_num, by omega, HT4, HS4, HB4, HN3⟩
        case measure => simp [RowKit.intOf]; omega
    · obtain rfl : k = 16 := by omega
      have HE := Lib.hid (sym_never HN.out)
      obtain ⟨⟨t0, t1, t2, t3⟩, u0, u1, u2, u3⟩ := HT.out.cells
      go_wp2_with fail
      refine bodyPost_ret (v := .tuple #[.agg #[.int .i64 0, .int .i64 0, .int .i64 0, .string ⟨#[]⟩], .int .i64 p, .int .i64 1]) (results_cell3 (p := 4) (u := 5) (t := 6) rfl _ _ R 30 #[.int .i64 0, .int .i64 0, .int .i64 0, .string ⟨#[]⟩] (0, 0) _ rfl (tk_put HT.out _ _ _ _) Tryd.underlying30 rfl rfl) rfl ?_
      rw [HE.out]; exact ⟨rfl, below_put HB.out HRR.out _ _ _ _⟩
end Go.Proofs.YtkdimbpmgngajaaDoor.Lx
