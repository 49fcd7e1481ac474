/- Walk: the law on the text of an amount. -/
import Derived.Test.YtieehofijndelaaDoorAmtLawParses
import Derived.Test.YtieehofijndelaaDoorAmtBackM
import Derived.Test.YtieehofijndelaaDoorAmtRefT
namespace Go.Proofs.YtieehofijndelaaDoor
open Go.RowKit

theorem textLit (a : Int) (f : Nat) (l : List UInt8) (hl : textL a (mag a) f = l) (hf : Lead (mag a) f) (w : World) (h1 : -9223372036854775808 ≤ a) (h2 : a ≤ 9223372036854775807) (hP : Pows w) (hz : 0 < w.heap.size) :
    Calls Tryd.prog 32 #[.int .i64 a] w fun e w' => e = .returned (.string (S l)) ∧ Below w.heap.size w w' := by
  subst hl
  refine (text_any a w h1 h2 hP hz).mono fun e w' ⟨g, hg, he, hb⟩ => ⟨?_, hb⟩
  rw [lead_one hf hg]; exact he
theorem refTextLit (a : Int) (f : Nat) (l : List UInt8) (hl : textL a (mag a) f = l) (hf : Lead (mag a) f) (w : World) (h1 : -9223372036854775808 ≤ a) (h2 : a ≤ 9223372036854775807) :
    Calls Tryd.prog 33 #[.int .i64 a] w fun e w' => e = .returned (.string (S l)) ∧ Below w.heap.size w w' := by
  subst hl; exact refText_any a f w h1 h2 hf
theorem parseLit (l : List UInt8) (x y : Int) (hx : psV l = x) (hy : psE l = y) (w : World) (hl : l.length ≤ 65536) (hP : Pows w) (hz : 0 < w.heap.size) :
    Calls Tryd.prog 31 #[.string (S l)] w fun e w' => e = .returned (.tuple #[.int .i64 x, .int .i64 y]) ∧ Below w.heap.size w w' := by
  subst hx; subst hy
  exact parse_any (S l) w (by rw [S_size]; exact hl) hP hz
theorem textL_length (a m : Int) (f : Nat) : (textL a m f).length ≤ 40 := by
  unfold textL
  have h1 : (dgs m f 15).length = 15 - f := dgs_length _ _ _
  have h2 : (dgs m 15 19).length = 4 := dgs_length _ _ _
  rw [List.length_append, List.length_append, List.length_append, h1, h2]
  split <;> simp <;> omega

set_option maxHeartbeats 4000000 in
theorem walkBack_of (a : Int) (f : Nat) (w : World) (h1 : -9223372036854775808 ≤ a) (h2 : a ≤ 9223372036854775807) (hf : Lead (mag a) f) (hP : Pows w) (hz : 0 < w.heap.size) :
    Calls Tryd.prog 10 #[.int .i64 a] w fun e w' => e = .returned (.bool true) ∧ Below w.heap.size w w' := by
  have hll := textL_length a (mag a) f
  have hT := textLit a f
  have hR := refTextLit a f
  cases hok : okA a with
  | true =>
    have hps := text_yes hok hf
    obtain ⟨l, hl⟩ : ∃ l, textL a (mag a) f = l := ⟨_, rfl⟩
    rw [hl] at hps hll
    have HT := Lib.hid (fun wx (hPx : Pows wx) (hzx : 0 < wx.heap.size) => hT l hl hf wx h1 h2 hPx hzx)
    have HR := Lib.hid (fun wx => hR l hl hf wx h1 h2)
    have HPa := Lib.hid (fun wx (hPx : Pows wx) (hzx : 0 < wx.heap.size) => parseLit l a 0 hps.1 hps.2 wx (by omega) hPx hzx)
    have HP := Lib.hid hP
    clear hT hR hps hl hll hf hP
    go_enter Tryd.func10, Tryd.ntmps10
    go_wp2_with fail
    refine (HT.out _ HP.out hz).mono ?_
    rintro e w1 ⟨rfl, b1⟩
    have z1 : 0 < w1.heap.size := Nat.lt_of_lt_of_le hz b1.size
    go_wp2_with fail
    refine (HPa.out _ (HP.out.below hz b1) z1).mono ?_
    rintro e w2 ⟨rfl, b2⟩
    have c2 : Below w.heap.size w w2 := b1.trans (b2.mono b1.size)
    have z2 : 0 < w2.heap.size := Nat.lt_of_lt_of_le hz c2.size
    clear b2
    go_wp2_with fail
    refine (HT.out _ (HP.out.below hz c2) z2).mono ?_
    rintro e w3 ⟨rfl, b3⟩
    have c3 : Below w.heap.size w w3 := c2.trans (b3.mono c2.size)
    clear b3
    go_wp2_with fail
    refine (HR.out _).mono ?_
    rintro e w4 ⟨rfl, b4⟩
    have c4 : Below w.heap.size w w4 := c3.trans (b4.mono c3.size)
    have HP4 := Lib.hid (HP.out.below hz c4)
    have z4 : 0 < w4.heap.size := Nat.lt_of_lt_of_le hz c4.size
    clear b4
    go_wp2_with (first
      | (go_at_call 18; refine (refValid_any _ _).mono ?_; rintro e w5 ⟨rfl, rfl⟩)
      | (go_at_call 12; refine (awake_any _ HP4.out z4).mono ?_; rintro e w6 ⟨rfl, b6⟩))
    go_ret
    exact ⟨rfl, c4.trans (b6.mono c4.size)⟩
  | false =>
    have hps := text_no hok h1 h2 hf
    obtain ⟨l, hl⟩ : ∃ l, textL a (mag a) f = l := ⟨_, rfl⟩
    rw [hl] at hps hll
    have HT := Lib.hid (fun wx (hPx : Pows wx) (hzx : 0 < wx.heap.size) => hT l hl hf wx h1 h2 hPx hzx)
    have HR := Lib.hid (fun wx => hR l hl hf wx h1 h2)
    have HPa := Lib.hid (fun wx (hPx : Pows wx) (hzx : 0 < wx.heap.size) => parseLit l 0 6 hps.1 hps.2 wx (by omega) hPx hzx)
    have HP := Lib.hid hP
    clear hT hR hps hl hll hf hP
    go_enter Tryd.func10, Tryd.ntmps10
    go_wp2_with fail
    refine (HT.out _ HP.out hz).mono ?_
    rintro e w1 ⟨rfl, b1⟩
    have z1 : 0 < w1.heap.size := Nat.lt_of_lt_of_le hz b1.size
    go_wp2_with fail
    refine (HPa.out _ (HP.out.below hz b1) z1).mono ?_
    rintro e w2 ⟨rfl, b2⟩
    have c2 : Below w.heap.size w w2 := b1.trans (b2.mono b1.size)
    have z2 : 0 < w2.heap.size := Nat.lt_of_lt_of_le hz c2.size
    clear b2
    go_wp2_with fail
    refine (HT.out _ (HP.out.below hz c2) z2).mono ?_
    rintro e w3 ⟨rfl, b3⟩
    have c3 : Below w.heap.size w w3 := c2.trans (b3.mono c2.size)
    clear b3
    go_wp2_with fail
    refine (HR.out _).mono ?_
    rintro e w4 ⟨rfl, b4⟩
    have c4 : Below w.heap.size w w4 := c3.trans (b4.mono c3.size)
    have HP4 := Lib.hid (HP.out.below hz c4)
    have z4 : 0 < w4.heap.size := Nat.lt_of_lt_of_le hz c4.size
    clear b4
    go_wp2_with (first
      | (go_at_call 18; refine (refValid_any _ _).mono ?_; rintro e w5 ⟨rfl, rfl⟩)
      | (go_at_call 12; refine (awake_any _ HP4.out z4).mono ?_; rintro e w6 ⟨rfl, b6⟩))
    go_ret
    exact ⟨rfl, c4.trans (b6.mono c4.size)⟩

/-- There is a first digit that is written. -/
theorem lead_some (m : Int) : ∃ f, Lead m f := by
  have key : ∀ k, k ≤ 14 → (∀ i, i < k → dg m i = 0) ∨ ∃ f, Lead m f := by
    intro k
    induction k with
    | zero => intro _; exact .inl fun i hi => absurd hi (by omega)
    | succ k ih =>
      intro hk
      rcases ih (by omega) with h | h
      · by_cases hd : dg m k = 0
        · left
          intro i hi
          rcases Nat.lt_or_ge i k with hlt | hge
          · exact h i hlt
          · have : i = k := by omega
            subst this; exact hd
        · exact .inr ⟨k, by omega, h, fun _ => hd⟩
      · exact .inr h
  rcases key 14 (Nat.le_refl _) with h | h
  · exact ⟨14, Nat.le_refl _, h, fun h => absurd h (by omega)⟩
  · exact h
theorem walkAmountBack (a : Int) (w : World) (wa : (Lit.int .i64 a).wf = true) (hP : Pows w) (hz : 0 < w.heap.size) :
    Calls Tryd.prog 10 #[.int .i64 a] w fun e w' => e = .returned (.bool true) ∧ Below w.heap.size w w' := by
  obtain ⟨f, hf⟩ := lead_some (mag a)
  have hb := i64_bounds wa
  exact walkBack_of a f w hb.1 hb.2 hf hP hz
end Go.Proofs.YtieehofijndelaaDoor
