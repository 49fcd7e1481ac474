/- Walks: the reference's length and Text. -/
import Derived.Test.YtlcjpnagjiemiaaRows
import Derived.Test.YtlcjpnagjiemiaaCdRN
import Derived.Test.YtlcjpnagjiemiaaCdO
namespace Go.Proofs.Ytlcjpnagjiemiaa
open Go.RowKit

/-- What the reference's length gives. -/
def LenP (l : List Int) (w : World) (e : Ending) (w' : World) : Prop :=
  ∃ v n, e = .returned (.tuple #[.int .i64 n, v, .int .i64 (lenR (l, 0)).2.2]) ∧ ((lenR (l, 0)).2.2 = 0 → n = (lenR (l, 0)).1) ∧ Own w' w.heap.size v (lenR (l, 0)).2.1 ∧ Below w.heap.size w w'
theorem lenR_err (s : St) (h : (lenR s).2.2 ≠ 0) : (lenR s).2.1 = [] := by
  unfold lenR at *
  split
  · rfl
  · rename_i h1; rw [if_neg h1] at h
    split
    · rfl
    · rename_i h2; rw [if_neg h2] at h; exact (numR_err s h).2
set_option maxHeartbeats 4000000 in
theorem refLength_any {A : Option Addr} {n c : Nat} {l : List Int} {w : World} (hA : Byt w A n c l) (hn : n ≤ 100000000) :
    Calls Try.prog 37 #[.slice A n c] w (LenP l w) := by
  have HN := Lib.hid (refNumber_any hA hn)
  have hL : lenR (l, 0) = if (numR (l, 0)).1 < 0 then ((numR (l, 0)).1, ([], 1)) else if 1048576 < (numR (l, 0)).1 then ((numR (l, 0)).1, ([], 5)) else numR (l, 0) := rfl
  have hz := numR_err (l, 0)
  unfold NumP at HN
  obtain ⟨⟨V, R, er⟩, hS⟩ : ∃ S, numR (l, 0) = S := ⟨_, rfl⟩
  rw [hS] at HN hL hz
  simp only at hL hz
  have HL := Lib.hid hL
  clear hA hS hL
  by_cases her : er = 0
  · subst her
    by_cases h1 : V < 0
    · have HE : Hid (lenR (l, 0) = (V, ([], 1))) := Lib.hid (by rw [HL.out, if_pos h1])
      clear hz
      go_enter Try.func37, Try.ntmps37
      go_wp2_with (go_at_call 16; refine HN.out.mono ?_; rintro e w1 ⟨v1, rfl, ho1, hb1⟩)
      go_ret3
      exact ⟨_, _, by rw [HE.out]; rfl, fun h => absurd h (by rw [HE.out]; intro h0; cases h0), by rw [HE.out]; exact own_none _ _, hb1⟩
    · by_cases h2 : 1048576 < V
      · have HE : Hid (lenR (l, 0) = (V, ([], 5))) := Lib.hid (by rw [HL.out, if_neg h1, if_pos h2])
        clear hz
        go_enter Try.func37, Try.ntmps37
        go_wp2_with (go_at_call 16; refine HN.out.mono ?_; rintro e w1 ⟨v1, rfl, ho1, hb1⟩)
        go_ret3
        exact ⟨_, _, by rw [HE.out]; rfl, fun h => absurd h (by rw [HE.out]; intro h0; cases h0), by rw [HE.out]; exact own_none _ _, hb1⟩
      · have HE : Hid (lenR (l, 0) = (V, (R, 0))) := Lib.hid (by rw [HL.out, if_neg h1, if_neg h2])
        clear hz
        go_enter Try.func37, Try.ntmps37
        go_wp2_with (go_at_call 16; refine HN.out.mono ?_; rintro e w1 ⟨v1, rfl, ho1, hb1⟩)
        go_ret3
        exact ⟨_, _, by rw [HE.out]; rfl, fun h => by rw [HE.out], by rw [HE.out]; exact ho1, hb1⟩
  · obtain ⟨rfl, rfl⟩ := hz her
    have HE : Hid (lenR (l, 0) = (0, ([], er))) := Lib.hid (by rw [HL.out]; simp)
    have h1 : (er != 0) = true := by simp [her]
    clear hz
    go_enter Try.func37, Try.ntmps37
    go_wp2_with (go_at_call 16; refine HN.out.mono ?_; rintro e w1 ⟨v1, rfl, ho1, hb1⟩)
    go_ret3
    exact ⟨_, _, by rw [HE.out]; rfl, fun h => absurd h (by rw [HE.out]; exact her), by rw [HE.out]; exact own_none _ _, hb1⟩

/-- What the reference's Text gives. -/
def TxtP (l : List Int) (w : World) (e : Ending) (w' : World) : Prop :=
  ∃ A m d, e = .returned (.tuple #[.string (txtR (l, 0)).1, .slice A m d, .int .i64 (txtR (l, 0)).2.2]) ∧ Byt w' A m d (txtR (l, 0)).2.1 ∧ Below w.heap.size w w'
theorem TxtP.no {l : List Int} {w : World} {e : Ending} {w' : World} (er : Int) (h : txtR (l, 0) = (ByteArray.empty, ([], er))) (he : e = .returned (.tuple #[.string ByteArray.empty, .slice none 0 0, .int .i64 er])) (hb : Below w.heap.size w w') : TxtP l w e w' :=
  ⟨_, _, _, by rw [h]; exact he, by rw [h]; exact byt_nil _, hb⟩
set_option maxHeartbeats 4000000 in
theorem refText_any {A : Option Addr} {n c : Nat} {l : List Int} {w : World} (hA : Byt w A n c l) (hn : n ≤ 100000000) :
    Calls Try.prog 21 #[.slice A n c] w (TxtP l w) := by
  have HN := Lib.hid (refLength_any hA hn)
  have hT : txtR (l, 0) = if (lenR (l, 0)).2.2 = 0 then (if ((lenR (l, 0)).2.1.length : Int) < (lenR (l, 0)).1 then (ByteArray.empty, ([], 2)) else (strOfNums ((lenR (l, 0)).2.1.take (lenR (l, 0)).1.toNat), ((lenR (l, 0)).2.1.drop (lenR (l, 0)).1.toNat, 0))) else (ByteArray.empty, ([], (lenR (l, 0)).2.2)) := rfl
  have hok := lenR_ok (s := (l, 0))
  unfold LenP at HN
  obtain ⟨⟨V, R, er⟩, hS⟩ : ∃ S, lenR (l, 0) = S := ⟨_, rfl⟩
  rw [hS] at HN hT hok
  simp only at hT hok
  have HT := Lib.hid hT
  clear hA hS hT
  by_cases her : er = 0
  · subst her
    obtain ⟨h1, h2, _⟩ := hok rfl
    obtain ⟨N, rfl⟩ := Int.eq_ofNat_of_zero_le h1
    have hNi : (N : Int) ≤ 1048576 := h2
    clear hok h1 h2
    by_cases hlt : R.length < N
    · have HE : Hid (txtR (l, 0) = (ByteArray.empty, ([], 2))) := Lib.hid (by rw [HT.out, if_pos rfl, if_pos (by omega)])
      have HLT := Lib.hid hlt; clear hlt
      go_enter Try.func21, Try.ntmps21
      go_wp2_with (go_at_call 37; refine HN.out.mono ?_; rintro e w1 ⟨v1, n1, rfl, hn1, ho1, hb1⟩; obtain rfl := hn1 (by first | trivial | rfl); obtain ⟨A1, m1, c1, rfl, hm1, y1⟩ := ho1.bytm; have hcmp : (m1 : Int) < (N : Int) := (by have h1 := HLT.out; have h2 := hm1.out; omega); clear hn1 ho1 y1)
      go_ret3
      exact TxtP.no 2 HE.out rfl hb1
    · have HE : Hid (txtR (l, 0) = (strOfNums (R.take N), (R.drop N, 0))) := Lib.hid (by rw [HT.out, if_pos rfl, if_neg (by omega), Int.toNat_natCast])
      have HLT := Lib.hid hlt; clear hlt
      go_enter Try.func21, Try.ntmps21
      go_wp2_with (go_at_call 37; refine HN.out.mono ?_; rintro e w1 ⟨v1, n1, rfl, hn1, ho1, hb1⟩; obtain rfl := hn1 (by first | trivial | rfl); obtain ⟨A1, m1, c1, rfl, hm1, y1⟩ := ho1.bytm; have hNm : N ≤ m1 := (by have h1 := HLT.out; have h2 := hm1.out; omega); have hcmp : ¬ (m1 : Int) < (N : Int) := (by omega); have hcv := fun q => byt_conv (byt_take (y1.below (below_drawn (Below.refl w1.heap.size w1) q)) N hNm); have hcap := y1.cap; have Y1 := Lib.hid y1; have HMX := Lib.hid y1.max; clear hn1 ho1 y1)
      by_cases hc : c1 = N
      · subst hc
        go_quiet (fail)
        go_wp2
        go_ret3
        refine ⟨A1, 0, 0, by rw [HE.out]; rfl, ?_, below_drawn hb1 _⟩
        rw [HE.out]
        have := hm1.out
        rw [List.drop_eq_nil_of_le (by omega)]
        exact byt_none (by unfold maxLen; omega) (fun _ => rfl)
      · go_quiet (fail)
        go_wp2
        go_ret3
        refine ⟨_, m1 - N, c1 - N, by rw [HE.out]; rfl, ?_, below_drawn hb1 _⟩
        rw [HE.out]
        exact (byt_dropm Y1.out N hNm).below (below_drawn (Below.refl _ _) _)
  · have HE : Hid (txtR (l, 0) = (ByteArray.empty, ([], er))) := Lib.hid (by rw [HT.out, if_neg her])
    have h1 : (er != 0) = true := by simp [her]
    clear hok
    go_enter Try.func21, Try.ntmps21
    go_wp2_with (go_at_call 37; refine HN.out.mono ?_; rintro e w1 ⟨v1, n1, rfl, hn1, ho1, hb1⟩; clear hn1)
    go_ret3
    exact TxtP.no er HE.out rfl hb1
end Go.Proofs.Ytlcjpnagjiemiaa
