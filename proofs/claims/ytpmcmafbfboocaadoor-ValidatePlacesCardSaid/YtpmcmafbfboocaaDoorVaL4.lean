/- Walk of the law on names, from awake's contract. -/
import Derived.Test.YtpmcmafbfboocaaDoorVaN
namespace Go.Proofs.YtpmcmafbfboocaaDoor.Va
open Go.RowKit

theorem nmZ_cases (k : Int) : nmZ k = ⟨#[]⟩ ∨ (nmZ k ≠ ⟨#[]⟩ ∧ knd (nmZ k) = k) := by
  by_cases h1 : k = 1
  · subst h1; exact .inr (by decide)
  · by_cases h2 : k = 2
    · subst h2; exact .inr (by decide)
    · by_cases h3 : k = 3
      · subst h3; exact .inr (by decide)
      · by_cases h4 : k = 4
        · subst h4; exact .inr (by decide)
        · exact .inl (by unfold nmZ; rw [if_neg h1, if_neg h2, if_neg h3, if_neg h4])
theorem knd_cases (s : ByteArray) : knd s = 0 ∨ (knd s ≠ 0 ∧ nmZ (knd s) = s) := by
  unfold knd
  split
  · next h => exact .inr ⟨by decide, h.symm⟩
  · split
    · next h => exact .inr ⟨by decide, h.symm⟩
    · split
      · next h => exact .inr ⟨by decide, h.symm⟩
      · split
        · next h => exact .inr ⟨by decide, h.symm⟩
        · exact .inl rfl
/-- The chapter's examples come out as they should. -/
abbrev Alv : Prop := ∀ (w : World), KN w → Calls Tryd.prog 9 #[] w fun e w' => e = .returned (.bool true) ∧ Below w.heap.size w w'
set_option maxRecDepth 100000 in
set_option maxHeartbeats 8000000 in
theorem namesWalk (HALV : Hid Alv) (k : Int) (nm : ByteArray) (w : World) (hK : KN w) :
    Calls Tryd.prog 5 #[.int .i64 k, .string nm] w fun e w' => e = .returned (.bool true) ∧ Below w.heap.size w w' := by
  have HK := Lib.hid hK
  have HA := Lib.hid (HALV.out w hK)
  have h1 := name_any k w hK
  have h2 := refName_any k w
  have h3 := kind_any nm w hK
  have h4 := refKind_any nm w
  have q2 : ((nmZ k).toList == (nmZ k).toList) = true := by simp
  rcases nmZ_cases k with hs | ⟨hs, hs2⟩
  · rw [hs] at h1 h2 q2
    rcases knd_cases nm with hz | ⟨hz, hz2⟩
    · rw [hz] at h3 h4
      have H1 := Lib.hid h1; have H2 := Lib.hid h2; have H3 := Lib.hid h3; have H4 := Lib.hid h4
      clear hK h1 h2 h3 h4 hs hz
      go_enter Tryd.func5, Tryd.ntmps5
      go_wp2_with (first
        | (go_at_call 19; (with_reducible refine H1.out.mono ?_); rintro e w1 ⟨rfl, rfl⟩)
        | (go_at_call 20; (with_reducible refine H2.out.mono ?_); rintro e w1 ⟨rfl, rfl⟩)
        | (go_at_call 21; (with_reducible refine H3.out.mono ?_); rintro e w1 ⟨rfl, rfl⟩)
        | (go_at_call 22; (with_reducible refine H4.out.mono ?_); rintro e w1 ⟨rfl, rfl⟩)
        | (go_at_call 9; (with_reducible refine HA.out.mono ?_); rintro e w1 ⟨rfl, hb1⟩))
      go_ret
      exact ⟨rfl, hb1⟩
    · have h5 := name_any (knd nm) w hK
      rw [hz2] at h5
      have qn : (nm.toList == nm.toList) = true := by simp
      obtain ⟨z, hzz⟩ : ∃ z, knd nm = z := ⟨_, rfl⟩
      rw [hzz] at h3 h4 h5 hz
      have hzq : (z == 0) = false := by simp [hz]
      have H1 := Lib.hid h1; have H2 := Lib.hid h2; have H3 := Lib.hid h3; have H4 := Lib.hid h4; have H5 := Lib.hid h5
      clear hK h1 h2 h3 h4 h5 hs hz hz2 hzz
      go_enter Tryd.func5, Tryd.ntmps5
      go_wp2_with (first
        | (go_at_call 19; (with_reducible refine H1.out.mono ?_); rintro e w1 ⟨rfl, rfl⟩)
        | (go_at_call 19; (with_reducible refine H5.out.mono ?_); rintro e w1 ⟨rfl, rfl⟩)
        | (go_at_call 20; (with_reducible refine H2.out.mono ?_); rintro e w1 ⟨rfl, rfl⟩)
        | (go_at_call 21; (with_reducible refine H3.out.mono ?_); rintro e w1 ⟨rfl, rfl⟩)
        | (go_at_call 22; (with_reducible refine H4.out.mono ?_); rintro e w1 ⟨rfl, rfl⟩)
        | (go_at_call 9; (with_reducible refine HA.out.mono ?_); rintro e w1 ⟨rfl, hb1⟩))
      go_ret
      exact ⟨rfl, hb1⟩
  · have h6 := kind_any (nmZ k) w hK
    rw [hs2] at h6
    have q0 : ((nmZ k).toList == (⟨#[]⟩ : ByteArray).toList) = false := by rw [sEq]; exact decide_eq_false hs
    have q1 : ((nmZ k).toList == ([] : List UInt8)) = false := by rw [show ([] : List UInt8) = (⟨#[]⟩ : ByteArray).toList by simp [ByteArray.toList_eq]]; exact q0
    obtain ⟨s, hss⟩ : ∃ s, nmZ k = s := ⟨_, rfl⟩
    rw [hss] at h1 h2 h6 q2 q0 q1
    rcases knd_cases nm with hz | ⟨hz, hz2⟩
    · rw [hz] at h3 h4
      have H1 := Lib.hid h1; have H2 := Lib.hid h2; have H3 := Lib.hid h3; have H4 := Lib.hid h4; have H6 := Lib.hid h6
      clear hK h1 h2 h3 h4 h6 hs hz hs2 hss
      go_enter Tryd.func5, Tryd.ntmps5
      go_wp2_with (first
        | (go_at_call 19; (with_reducible refine H1.out.mono ?_); rintro e w1 ⟨rfl, rfl⟩)
        | (go_at_call 20; (with_reducible refine H2.out.mono ?_); rintro e w1 ⟨rfl, rfl⟩)
        | (go_at_call 21; (with_reducible refine H3.out.mono ?_); rintro e w1 ⟨rfl, rfl⟩)
        | (go_at_call 21; (with_reducible refine H6.out.mono ?_); rintro e w1 ⟨rfl, rfl⟩)
        | (go_at_call 22; (with_reducible refine H4.out.mono ?_); rintro e w1 ⟨rfl, rfl⟩)
        | (go_at_call 9; (with_reducible refine HA.out.mono ?_); rintro e w1 ⟨rfl, hb1⟩))
      go_ret
      exact ⟨rfl, hb1⟩
    · have h5 := name_any (knd nm) w hK
      rw [hz2] at h5
      have qn : (nm.toList == nm.toList) = true := by simp
      obtain ⟨z, hzz⟩ : ∃ z, knd nm = z := ⟨_, rfl⟩
      rw [hzz] at h3 h4 h5 hz
      have hzq : (z == 0) = false := by simp [hz]
      have H1 := Lib.hid h1; have H2 := Lib.hid h2; have H3 := Lib.hid h3; have H4 := Lib.hid h4; have H5 := Lib.hid h5; have H6 := Lib.hid h6
      clear hK h1 h2 h3 h4 h5 h6 hs hz hz2 hzz hs2 hss
      go_enter Tryd.func5, Tryd.ntmps5
      go_wp2_with (first
        | (go_at_call 19; (with_reducible refine H1.out.mono ?_); rintro e w1 ⟨rfl, rfl⟩)
        | (go_at_call 19; (with_reducible refine H5.out.mono ?_); rintro e w1 ⟨rfl, rfl⟩)
        | (go_at_call 20; (with_reducible refine H2.out.mono ?_); rintro e w1 ⟨rfl, rfl⟩)
        | (go_at_call 21; (with_reducible refine H3.out.mono ?_); rintro e w1 ⟨rfl, rfl⟩)
        | (go_at_call 21; (with_reducible refine H6.out.mono ?_); rintro e w1 ⟨rfl, rfl⟩)
        | (go_at_call 22; (with_reducible refine H4.out.mono ?_); rintro e w1 ⟨rfl, rfl⟩)
        | (go_at_call 9; (with_reducible refine HA.out.mono ?_); rintro e w1 ⟨rfl, hb1⟩))
      go_ret
      exact ⟨rfl, hb1⟩
end Go.Proofs.YtpmcmafbfboocaaDoor.Va
