/- Walk: zones.Find. -/
import Derived.Test.YtflonakoagjmhaaZnI
namespace Go.Proofs.Ytflonakoagjmhaa.Zn
open Go.RowKit Go.Proofs.Ytflonakoagjmhaa Go.Maps

/-- The zone of a text; nothing if it has none. -/
def fnd (l : List Zo) (s : Wd) : Wd := if ckZ l = 0 ∧ numB s = true then lk (val (ixL l).2) s else []
def FndOut (l : List Zo) (s : Wd) (w : World) (e : Ending) (w' : World) : Prop := ∃ v : ByteArray, e = .returned (.tuple #[.string v, .bool !(fnd l s).isEmpty]) ∧ v.data.toList = fnd l s ∧ v.size ≤ maxLen ∧ Below w.heap.size w w'
set_option maxHeartbeats 4000000 in
theorem find_any (A : Option Addr) (n c : Nat) (l : List Zm) (s : ByteArray) (w : World) (hA : ZsR w A l) (hn : l.length = n) (hc : n ≤ c) (hm : c ≤ maxLen) (hf : Fit l) (hs : s.size ≤ maxLen) :
    Calls Try.prog 16 #[.slice A n c, .string s] w (FndOut (zos l) s.data.toList w) := by
  have H := Lib.hid (index_any A n c l w hA hn hc hm hf)
  have HV := Lib.hid (fun W => valid_any s W hs)
  have HS := Lib.hid hs
  clear hA hn hf hs
  unfold IdxOut at H
  unfold FndOut fnd ckZ
  obtain ⟨r, hr⟩ : ∃ r, ixL (zos l) = r := ⟨_, rfl⟩
  rw [hr] at H ⊢
  obtain ⟨ev, K⟩ := r
  simp only at H ⊢
  clear hr
  by_cases hz : ev = 0
  · subst hz
    simp only [if_true] at H
    obtain ⟨x, hx⟩ : ∃ x, numB s.data.toList = x := ⟨_, rfl⟩
    rw [hx] at HV ⊢
    clear hx
    cases x
    · simp only [true_and, Bool.false_eq_true, if_false]
      go_enter Try.func16, Try.ntmps16
      go_wp2_with (first
        | (go_at_call 25; (with_reducible refine H.out.mono ?_); rintro e w1 ⟨b1, n1, rfl, hm1, hb1, hb⟩)
        | (go_at_call 28; (with_reducible refine (HV.out _).mono ?_); rintro e w2 ⟨rfl, rfl⟩))
      go_ret2
      exact ⟨⟨#[]⟩, rfl, rfl, by decide, hb⟩
    · simp only [true_and, if_true]
      go_enter Try.func16, Try.ntmps16
      go_wp2_with (first
        | (go_at_call 25; (with_reducible refine H.out.mono ?_); rintro e w1 ⟨b1, n1, rfl, hm1, hb1, hb⟩; have HM1 := Lib.hid hm1; clear hm1)
        | (go_at_call 28; (with_reducible refine (HV.out _).mono ?_); rintro e w2 ⟨rfl, rfl⟩)
        | (go_at_call 29; (with_reducible refine (lookUp_any HM1.out s HS.out).mono ?_); rintro e w3 ⟨v, rfl, hv, hvs, rfl⟩))
      go_ret2
      exact ⟨v, by show Ending.returned (.tuple #[.string v, .bool !v.toList.isEmpty]) = _; rw [ByteArray.toList_eq, hv], hv, hvs, hb⟩
  · simp only [hz, if_false, false_and] at H ⊢
    have d0 : (ev == 0) = false := by rw [beq_eq_false_iff_ne]; exact hz
    clear HV
    go_enter Try.func16, Try.ntmps16
    go_wp2_with (go_at_call 25; (with_reducible refine H.out.mono ?_); rintro e w1 ⟨rfl, hb⟩)
    go_ret2
    exact ⟨⟨#[]⟩, rfl, rfl, by decide, hb⟩
end Go.Proofs.Ytflonakoagjmhaa.Zn
