/- Pure mathematics: a record that is read has exactly its bytes. -/
import Derived.Test.YtgflaclmdcegfaaCdOnM
namespace Go.Proofs.Ytgflaclmdcegfaa
open Go.RowKit

theorem numR_z {s : St} (h : (numR s).2.2 = 0) : s.2 = 0 := by
  by_cases h0 : s.2 = 0
  · exact h0
  · rw [numR_keep h0] at h; exact h
theorem txtR_z {s : St} (h : (txtR s).2.2 = 0) : s.2 = 0 := by
  by_cases h0 : s.2 = 0
  · exact h0
  · rw [txtR_keep h0] at h; exact h
theorem boolR_z {s : St} (h : (boolR s).2.2 = 0) : s.2 = 0 := by
  by_cases h0 : s.2 = 0
  · exact h0
  · rw [boolR_keep h0] at h; exact h
theorem recR_o {b r : List Int} {c : Rc} (hb : BR b) (hl : b.length ≤ 300) (h : recR (b, 0) = (c, (r, 0))) : b = c.enc ++ r ∧ c.In 1000 := by
  have hb0 : BR b := hb
  obtain ⟨⟨s0, l1, t1⟩, h0⟩ : ∃ S, numR (b, (0 : Int)) = S := ⟨_, rfl⟩
  obtain ⟨⟨s1, l2, t2⟩, h1⟩ : ∃ S, numR (l1, t1) = S := ⟨_, rfl⟩
  obtain ⟨⟨s2, l3, t3⟩, h2⟩ : ∃ S, numR (l2, t2) = S := ⟨_, rfl⟩
  obtain ⟨⟨sa, l4, t4⟩, h3⟩ : ∃ S, txtR (l3, t3) = S := ⟨_, rfl⟩
  obtain ⟨⟨sb, l5, t5⟩, h4⟩ : ∃ S, txtR (l4, t4) = S := ⟨_, rfl⟩
  obtain ⟨⟨s5, l6, t6⟩, h5⟩ : ∃ S, numR (l5, t5) = S := ⟨_, rfl⟩
  obtain ⟨⟨s6, l7, t7⟩, h6⟩ : ∃ S, numR (l6, t6) = S := ⟨_, rfl⟩
  obtain ⟨⟨s7, l8, t8⟩, h7⟩ : ∃ S, numR (l7, t7) = S := ⟨_, rfl⟩
  obtain ⟨⟨s8, l9, t9⟩, h8⟩ : ∃ S, numR (l8, t8) = S := ⟨_, rfl⟩
  obtain ⟨⟨b9, l10, t10⟩, h9⟩ : ∃ S, boolR (l9, t9) = S := ⟨_, rfl⟩
  obtain ⟨⟨s10, l11, t11⟩, h10⟩ : ∃ S, numR (l10, t10) = S := ⟨_, rfl⟩
  obtain ⟨⟨b11, l12, t12⟩, h11⟩ : ∃ S, boolR (l11, t11) = S := ⟨_, rfl⟩
  have hr : recR (b, 0) = (⟨s0, s1, s2, sa, sb, s5, s6, s7, s8, b9, s10, b11⟩, (l12, t12)) := by simp only [recR, h0, h1, h2, h3, h4, h5, h6, h7, h8, h9, h10, h11]
  rw [hr] at h
  simp only [Prod.mk.injEq] at h
  obtain ⟨rfl, rfl, rfl⟩ := h
  obtain rfl : t11 = 0 := boolR_z (s := (l11, t11)) (by rw [h11])
  obtain rfl : t10 = 0 := numR_z (s := (l10, t10)) (by rw [h10])
  obtain rfl : t9 = 0 := boolR_z (s := (l9, t9)) (by rw [h9])
  obtain rfl : t8 = 0 := numR_z (s := (l8, t8)) (by rw [h8])
  obtain rfl : t7 = 0 := numR_z (s := (l7, t7)) (by rw [h7])
  obtain rfl : t6 = 0 := numR_z (s := (l6, t6)) (by rw [h6])
  obtain rfl : t5 = 0 := numR_z (s := (l5, t5)) (by rw [h5])
  obtain rfl : t4 = 0 := txtR_z (s := (l4, t4)) (by rw [h4])
  obtain rfl : t3 = 0 := txtR_z (s := (l3, t3)) (by rw [h3])
  obtain rfl : t2 = 0 := numR_z (s := (l2, t2)) (by rw [h2])
  obtain rfl : t1 = 0 := numR_z (s := (l1, t1)) (by rw [h1])
  obtain ⟨e0, -, p0, w0⟩ := numR_o (s := (b, 0)) hb0 h0
  obtain ⟨e1, -, p1, w1⟩ := numR_o (s := (l1, 0)) p0 h1
  obtain ⟨e2, -, p2, w2⟩ := numR_o (s := (l2, 0)) p1 h2
  obtain ⟨e3, -, p3, w3⟩ := txtR_o (s := (l3, 0)) p2 h3
  obtain ⟨e4, -, p4, w4⟩ := txtR_o (s := (l4, 0)) p3 h4
  obtain ⟨e5, -, p5, w5⟩ := numR_o (s := (l5, 0)) p4 h5
  obtain ⟨e6, -, p6, w6⟩ := numR_o (s := (l6, 0)) p5 h6
  obtain ⟨e7, -, p7, w7⟩ := numR_o (s := (l7, 0)) p6 h7
  obtain ⟨e8, -, p8, w8⟩ := numR_o (s := (l8, 0)) p7 h8
  obtain ⟨e9, -, p9⟩ := boolR_o (s := (l9, 0)) p8 h9
  obtain ⟨e10, -, p10, w10⟩ := numR_o (s := (l10, 0)) p9 h10
  obtain ⟨e11, -, p11⟩ := boolR_o (s := (l11, 0)) p10 h11
  simp only at e0 e1 e2 e3 e4 e5 e6 e7 e8 e9 e10 e11
  have n3 : l3.length ≤ 300 := by rw [e0, e1, e2, List.length_append, List.length_append, List.length_append] at hl; omega
  have n4 : l4.length ≤ 300 := by rw [e3, List.length_append] at n3; omega
  refine ⟨?_, ?_⟩
  · simp only [Rc.enc, List.append_assoc]
    rw [← e11, ← e10, ← e9, ← e8, ← e7, ← e6, ← e5, ← e4, ← e3, ← e2, ← e1, ← e0]
  · constructor
    · exact w0
    · exact w1
    · exact w2
    · show sa.size ≤ 1000; simp only at w3; omega
    · show sb.size ≤ 1000; simp only at w4; omega
    · exact w5
    · exact w6
    · exact w7
    · exact w8
    · exact w10
end Go.Proofs.Ytgflaclmdcegfaa
