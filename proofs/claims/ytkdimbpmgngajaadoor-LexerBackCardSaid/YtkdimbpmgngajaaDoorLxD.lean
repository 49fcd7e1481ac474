/- Walks: the cursor's skipBlanks and symbol. -/
import Derived.Test.YtkdimbpmgngajaaDoorLxC
import Derived.Test.YtkdimbpmgngajaaDoorShelf
import Derived.Lib.Strings
namespace Go.Proofs.YtkdimbpmgngajaaDoor.Lx
open Go Go.Lib Go.RowKit Go.Proofs.YtkdimbpmgngajaaDoor

theorem skp_blk : ∀ r : Wd, skp false r = skp false (r.dropWhile blkB)
  | [] => rfl
  | b :: t => by
    rw [List.dropWhile_cons]
    split
    · rename_i hb
      rw [skp, if_neg (by
        intro h
        rw [eq_of_beq h] at hb
        exact absurd hb (by decide)), if_pos hb]
      exact skp_blk t
    · rfl
theorem skp_com : ∀ t : Wd, skp true t = skp false (t.dropWhile comB)
  | [] => rfl
  | b :: t => by
    rw [List.dropWhile_cons, skp]
    unfold comB
    split
    · rename_i hb
      rw [eq_of_beq hb]
      rw [if_neg (by decide), skp, if_neg (by decide), if_pos (by decide)]
    · rename_i hb
      rw [if_pos (by simpa using hb)]
      exact skp_com t
theorem skp_hash (t : Wd) : skp false (35 :: t) = skp false ((35 :: t).dropWhile comB) := by
  rw [skp, if_pos (by decide), skp_com, List.dropWhile_cons, if_pos (by decide)]
theorem skp_stop {r : Wd} (h : r.dropWhile blkB = r) (h2 : (hdB r == 35) = false) : skp false r = r := by
  cases r with
  | nil => rfl
  | cons b t =>
    rw [skp, if_neg (by
      have h3 : (b == 35) = false := h2
      rw [h3]; decide), if_neg (fun hb => by
      rw [List.dropWhile_cons, if_pos hb] at h
      have := congrArg List.length h
      have h4 := take_drop_len blkB t
      simp at this; omega)]
theorem dw_dw (q : UInt8 → Bool) : ∀ r : Wd, (r.dropWhile q).dropWhile q = r.dropWhile q
  | [] => rfl
  | b :: t => by
    rw [List.dropWhile_cons]
    split
    · exact dw_dw q t
    · rename_i h
      rw [List.dropWhile_cons, if_neg h]
set_option maxRecDepth 100000 in
set_option maxHeartbeats 8000000 in
theorem skipBlanks_any {w : World} {g p : Nat} {s : ByteArray} {r : Wd} (h : Cur w g s p r) :
    Calls Tryd.prog 34 #[.pointer (some ⟨g, 0, none⟩)] w fun e w' => e = .returned (.tuple #[]) ∧ CoR w w' g s (skp false r) := by
  have HR := Lib.hid (run_any h)
  unfold RunOut at HR
  clear h
  go_enter Tryd.func34, Tryd.ntmps34
  go_wp2_with (go_at_call 45; (with_reducible refine HR.out.mono ?_); rintro e w1 ⟨X, rfl, -, -, hC⟩; have HC1 := Lib.hid hC; clear hC)
  go_loopw [] (fun wr => ∃ (p : Nat) (q : Wd), Hid (CO w wr g s p q) ∧ Hid (skp false q = skp false r) ∧ Hid (q.dropWhile blkB = q)) (fun wr => s.size - posOf wr g)
  case atStart => exact ⟨_, _, HC1, Lib.hid (skp_blk r).symm, Lib.hid (dw_dw _ _)⟩
  case round =>
    obtain ⟨p2, q, HC, HS, HD⟩ := hrel
    have HPK := Lib.hid (peek_any HC.out.1)
    have e35 : (((hdB q).toNat : Int) == (35 : Int)) = (hdB q == 35) := beq_nat (hdB q) 35 (by decide)
    obtain ⟨x, hx⟩ : ∃ x, (hdB q == 35) = x := ⟨_, rfl⟩
    rw [hx] at e35
    have HX := Lib.hid hx
    clear hx
    cases x
    · go_wp2_with (go_at_call 35; (with_reducible refine HPK.out.mono ?_); rintro e w2 ⟨rfl, n2, rfl⟩)
      go_end0
      refine ⟨rfl, p2, ?_⟩
      rw [← HS.out, skp_stop HD.out HX.out]
      exact ⟨HC.out.1.drew _, gr_tr HC.out.2 (gr_dr _ _ _)⟩
    · have hq : ∃ t, q = 35 :: t := by
        have h1 := HX.out
        cases q with
        | nil => exact absurd h1 (by decide)
        | cons c t => exact ⟨t, by rw [show c = 35 from by simpa [hdB] using h1]⟩
      obtain ⟨t, rfl⟩ := hq
      go_wp2_with (first
        | (go_at_call 35; (with_reducible refine HPK.out.mono ?_); rintro e w2 ⟨rfl, n2, rfl⟩; have HC2 : Hid (CO w (wr.drewN n2) g s p2 (35 :: t)) := Lib.hid ⟨HC.out.1.drew _, gr_tr HC.out.2 (gr_dr _ _ _)⟩; have HR2 := Lib.hid (runComment_any HC2.out.1); unfold RunOut at HR2)
        | (go_at_call 45; (with_reducible refine HR2.out.mono ?_); rintro e w3 ⟨X2, rfl, -, -, hC3⟩; have HC3 := Lib.hid (HC2.out.trans hC3); have HR3 := Lib.hid (run_any hC3.1); unfold RunOut at HR3; clear hC3)
        | (go_at_call 45; (with_reducible refine HR3.out.mono ?_); rintro e w4 ⟨X3, rfl, -, -, hC4⟩; have HC4 := Lib.hid (HC3.out.trans hC4); clear hC4))
      go_roundw
      case rel => exact ⟨_, _, HC4, Lib.hid (by rw [← skp_blk, ← skp_hash]; exact HS.out), Lib.hid (dw_dw _ _)⟩
      case measure =>
        have h1 := HC.out.1.pos
        have h2 := HC4.out.1.pos
        have h3 := HC.out.1.len
        have h4 := HC4.out.1.len
        have h5 : 1 ≤ (List.takeWhile comB (35 :: t)).length := by rw [List.takeWhile_cons, if_pos (by decide)]; simp
        have h6 : p2 < s.size := by simp at h3; omega
        rw [h1, h2]; omega
end Go.Proofs.YtkdimbpmgngajaaDoor.Lx
