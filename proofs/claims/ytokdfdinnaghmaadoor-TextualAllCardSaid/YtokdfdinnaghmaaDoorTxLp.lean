/- Walk: Lines of the program. -/
import Derived.Test.YtokdfdinnaghmaaDoorTxLn
import Derived.Test.YtokdfdinnaghmaaDoorShelf
namespace Go.Proofs.YtokdfdinnaghmaaDoor.Tx
open Go Go.Lib Go.RowKit

theorem split_nl (s : ByteArray) (w : World) (hs : s.size ≤ maxLen) : Calls Tryd.prog 28 #[.string s, .int .i32 10, .int .i64 4097] w (SpOut (spl 10 s.data.toList) 4097 w) :=
  split_any s 10 4097 (by decide) (by decide) (by decide) w hs
theorem suf_ok {l : Wd} (h : l ≠ []) : hasSuffix l [10] = okL l := by
  obtain ⟨i, x, rfl⟩ : ∃ i x, l = i ++ [x] := ⟨l.dropLast, l.getLast h, (List.dropLast_concat_getLast h).symm⟩
  unfold okL hasSuffix
  rw [Bool.eq_iff_iff, List.isSuffixOf_iff_suffix]
  simp only [List.getLast?_concat, Option.some.injEq, Bool.or_eq_true, decide_eq_true_eq]
  constructor
  · rintro ⟨t, ht⟩
    exact .inr (by have := congrArg List.getLast? ht; simpa using this.symm)
  · rintro (e | e)
    · exact absurd e (by simp)
    · exact ⟨i, by rw [e]⟩
theorem own_some2 {w : World} {base : Nat} {e : TypeId} {size : Nat} {v : Value} {n : Nat} {xs : List Value} (h : w.ownsRow base e size v (n + 1) xs) : ∃ g cap : Nat, v = .slice (some ⟨g, 0, none⟩) (n + 1 : Nat) cap ∧ n + 1 ≤ cap ∧ cap ≤ maxLen := by
  rcases h.2 with h2 | ⟨g, cap, cur, hv, _, _, h5, h6, _⟩
  · exact absurd h2.2 (by omega)
  · exact ⟨g, cap, hv, h5, h6⟩
/-- The parts but the last. -/
theorem own_but {w : World} {base g c m : Nat} {l : List ByteArray} (hm : l.length = m + 1) (h : w.ownsRow base 9 1 (.slice (some ⟨g, 0, none⟩) (m + 1 : Nat) c) (m + 1) (l.map Value.string)) :
    w.ownsRow base 9 1 (.slice (some ⟨g, 0, none⟩) (m : Nat) c) l.dropLast.length (l.dropLast.map Value.string) := by
  have h2 := own_prefix h (m := m) (by omega)
  have e : l.dropLast.length = m := by rw [List.length_dropLast]; omega
  rw [e, List.dropLast_eq_take, List.map_take, hm]
  exact h2
theorem byt_but (l : List ByteArray) : byt l.dropLast = (byt l).dropLast := by simp [byt, List.map_dropLast]
theorem suf_any (s : ByteArray) (w : World) (hs : s.size ≤ maxLen) (h : s.data.toList ≠ []) {b : Bool} (hb : okL s.data.toList = b) : Calls Tryd.prog 27 #[.string s, .string ⟨#[10]⟩] w fun e w' => e = .returned (.bool b) ∧ w' = w := by
  subst hb
  rw [← suf_ok h]
  exact Tryd.strings_HasSuffix s ⟨#[10]⟩ w (by unfold maxLen at hs; omega)
set_option maxRecDepth 100000 in
set_option maxHeartbeats 8000000 in
theorem lines_any (s : ByteArray) (w : World) (hs : s.size ≤ maxLen) : Calls Tryd.prog 14 #[.string s] w (LinesOut s.data.toList w) := by
  have HSM := Lib.hid hs
  unfold maxLen at hs
  obtain ⟨b, hb⟩ : ∃ b, okL s.data.toList = b := ⟨_, rfl⟩
  have HOK := Lib.hid hb
  by_cases h0 : s.size = 0
  · obtain rfl : s = ByteArray.empty := by simpa using h0
    obtain rfl : b = true := by rw [← hb]; rfl
    clear hb
    go_enter Tryd.func14, Tryd.ntmps14
    go_wp2_with (go_at_call 28; (with_reducible refine (split_nl _ _ HSM.out).mono ?_); rintro e w1 ⟨H1, -, H3⟩; obtain ⟨v', l, rfl, hl, hz, ho⟩ := H1 (by decide); have hl1 : l.length = 0 + 1 := (by rw [← byt_len, hl]; rfl); rw [hl1] at ho; obtain ⟨g, c, rfl, hc1, hc2⟩ := own_some2 ho; have HL := Lib.hid hl; have HZ := Lib.hid hz; have HO := Lib.hid ho; have HB := Lib.hid H3; clear H1 H3 hl hz ho)
    go_ret2
    exact ⟨fun h => (by cases h), fun _ h => absurd h (by decide), fun _ _ => ⟨_, l.dropLast, rfl, by rw [byt_but, HL.out], fun x hx => HZ.out x (List.dropLast_subset l hx), own_but hl1 HO.out⟩, HB.out⟩
  have hE := ne_empty h0
  have hne : s.data.toList ≠ [] := fun e => h0 (by_nil.1 e)
  have HNE := Lib.hid hne
  clear hb hne
  cases b
  · go_enter Tryd.func14, Tryd.ntmps14
    go_wp2_with (go_at_call 27; (with_reducible refine (suf_any s _ HSM.out HNE.out HOK.out).mono ?_); rintro e w1 ⟨rfl, rfl⟩)
    go_ret2
    exact ⟨fun _ => rfl, fun h => (by rw [HOK.out] at h; cases h), fun h => (by rw [HOK.out] at h; cases h), Below.refl _ _⟩
  · by_cases hlen : (spl 10 s.data.toList).length ≤ 4097
    · have HLN := Lib.hid hlen
      clear hlen
      go_enter Tryd.func14, Tryd.ntmps14
      go_wp2_with (first
        | (go_at_call 27; (with_reducible refine (suf_any s _ HSM.out HNE.out HOK.out).mono ?_); rintro e w1 ⟨rfl, rfl⟩)
        | (go_at_call 28; (with_reducible refine (split_nl _ _ HSM.out).mono ?_); rintro e w2 ⟨H1, -, H3⟩; obtain ⟨v', l, rfl, hl, hz, ho⟩ := H1 HLN.out; have hl1 : 1 ≤ l.length := (by rw [← byt_len, hl]; exact spl_len_pos _ _); obtain ⟨m, hm⟩ : ∃ m, l.length = m + 1 := ⟨l.length - 1, by omega⟩; rw [hm] at ho; obtain ⟨g, c, rfl, hc1, hc2⟩ := own_some2 ho; have hm4 : m ≤ 4096 := (by have := HLN.out; rw [← hl, byt_len] at this; omega); have HL := Lib.hid hl; have HZ := Lib.hid hz; have HO := Lib.hid ho; have HB := Lib.hid H3; clear H1 H3 hl hz ho))
      go_ret2
      exact ⟨fun h => (by rw [HOK.out] at h; cases h), fun _ h => absurd h (by have := HLN.out; omega), fun _ _ => ⟨_, l.dropLast, rfl, by rw [byt_but, HL.out], fun x hx => HZ.out x (List.dropLast_subset l hx), own_but hm HO.out⟩, HB.out⟩
    · have HLN := Lib.hid hlen
      clear hlen
      go_enter Tryd.func14, Tryd.ntmps14
      go_wp2_with (first
        | (go_at_call 27; (with_reducible refine (suf_any s _ HSM.out HNE.out HOK.out).mono ?_); rintro e w1 ⟨rfl, rfl⟩)
        | (go_at_call 28; (with_reducible refine (split_nl _ _ HSM.out).mono ?_); rintro e w2 ⟨-, H2, H3⟩; obtain rfl := H2 (by have := HLN.out; omega); have HB := Lib.hid H3; clear H2 H3))
      go_ret2
      exact ⟨fun h => (by rw [HOK.out] at h; cases h), fun _ _ => rfl, fun _ h => absurd h HLN.out, HB.out⟩
end Go.Proofs.YtokdfdinnaghmaaDoor.Tx
