/- Walk: the chapter's examples. -/
import Derived.Test.YtgobbeommjjlfaaDdG
namespace Go.Proofs.Ytgobbeommjjlfaa
open Go.RowKit

/-- A list that came back. -/
def Got (n : Nat) (L : List Rg) (w : World) (e : Ending) (w' : World) : Prop :=
  ∃ A c, e = .returned (.slice A n c) ∧ n ≤ c ∧ c ≤ maxLen ∧ RgR w' A L ∧ (A = none → n = 0) ∧ Below w.heap.size w w'
def GotT (n : Nat) (L : List Rg) (w : World) (e : Ending) (w' : World) : Prop :=
  ∃ A c, e = .returned (.tuple #[.slice A n c, .bool true]) ∧ n ≤ c ∧ c ≤ maxLen ∧ RgR w' A L ∧ (A = none → n = 0) ∧ Below w.heap.size w w'
theorem rg_own0 {w : World} {base n : Nat} {v : Value} {l : List Rg} (h : w.ownsRow base 44 3 v n (rcl l)) (hn : l.length = n) : ∃ A c, v = .slice A n c ∧ n ≤ c ∧ c ≤ maxLen ∧ RgR w A l ∧ (A = none → n = 0) := by
  obtain ⟨A, c, rfl, h1, h2, h3⟩ := rg_own h hn
  refine ⟨A, c, rfl, h1, h2, h3, fun e => ?_⟩
  subst e
  rcases h.2 with ⟨_, h0⟩ | ⟨g, cap, cur, hv, _⟩
  · exact h0
  · cases hv
theorem add_got (A : Option Addr) (n c : Nat) (l : List Rg) (s x : Int) (w : World) (hl : Can l) (hA : RgR w A l) (hn : l.length = n) (h0 : A = none → n = 0) (h6 : n ≤ 1000000) (hc : n ≤ c) (hm : c ≤ maxLen) (hr : rfs l s x = 0) {L : List Rg} {m : Nat} (hL : adL s x l = L) (hLm : L.length = m) :
    Calls Try.prog 18 #[.slice A n c, .int .i64 s, .int .i64 x] w (GotT m L w) := by
  refine (add_yes A n c l s x w hl hA hn h0 h6 hc hm hr).mono fun e w' h => ?_
  obtain ⟨v, rfl, ho, hb⟩ := h
  rw [hL, hLm] at ho
  obtain ⟨A', c', rfl, h1, h2, h3, h4⟩ := rg_own0 ho hLm
  exact ⟨A', c', rfl, h1, h2, h3, h4, hb⟩
theorem refAdd_got (A : Option Addr) (n c : Nat) (l : List Rg) (s x : Int) (w : World) (hl : Can l) (hA : RgR w A l) (hn : l.length = n) (h6 : n ≤ 1000000) (hc : n ≤ c) (hm : c ≤ maxLen) (hr : rfs l s x = 0) {L : List Rg} {m : Nat} (hL : adL s x l = L) (hLm : L.length = m) :
    Calls Try.prog 19 #[.slice A n c, .int .i64 s, .int .i64 x] w (GotT m L w) := by
  refine (refAdd_yes A n c l s x w hl hA hn h6 hc hm hr).mono fun e w' h => ?_
  obtain ⟨v, rfl, ho, hb⟩ := h
  rw [hL, hLm] at ho
  obtain ⟨A', c', rfl, h1, h2, h3, h4⟩ := rg_own0 ho hLm
  exact ⟨A', c', rfl, h1, h2, h3, h4, hb⟩
theorem missing_got (A : Option Addr) (n c : Nat) (l : List Rg) (s : Int) (w : World) (hl : Can l) (h6 : n ≤ 1000000) (hA : RgR w A l) (hn : l.length = n) (hc : n ≤ c) (hm : c ≤ maxLen) {L : List Rg} {m : Nat} (hL : (glA s l).1 = L) (hLm : L.length = m) :
    Calls Try.prog 25 #[.slice A n c, .int .i64 s] w (Got m L w) := by
  refine (missing_any A n c l s w hl h6 hA hn hc hm).mono fun e w' h => ?_
  obtain ⟨v, rfl, ho, hb⟩ := h
  rw [hL, hLm] at ho
  obtain ⟨A', c', rfl, h1, h2, h3, h4⟩ := rg_own0 ho hLm
  exact ⟨A', c', rfl, h1, h2, h3, h4, hb⟩
theorem refMissing_got (A : Option Addr) (n c : Nat) (l : List Rg) (s : Int) (w : World) (hl : Can l) (h6 : n ≤ 1000000) (hA : RgR w A l) (hn : l.length = n) (hc : n ≤ c) (hm : c ≤ maxLen) {L : List Rg} {m : Nat} (hL : (glA s l).1 = L) (hLm : L.length = m) :
    Calls Try.prog 26 #[.slice A n c, .int .i64 s] w (Got m L w) := by
  refine (refMissing_any A n c l s w hl h6 hA hn hc hm).mono fun e w' h => ?_
  obtain ⟨v, rfl, ho, hb⟩ := h
  rw [hL, hLm] at ho
  obtain ⟨A', c', rfl, h1, h2, h3, h4⟩ := rg_own0 ho hLm
  exact ⟨A', c', rfl, h1, h2, h3, h4, hb⟩
theorem eqRange_same (a b c : Int) (w : World) : (binOp .eql 44 (.agg #[.int .i64 a, .int .i64 b, .int .i64 c]) (.agg #[.int .i64 a, .int .i64 b, .int .i64 c])).run Try.prog w = .ok (.bool true) w := by rw [eqRange]; simp
theorem rg_lit2 (w : World) (r q : Rg) : RgR (w.alloc (.cells #[.int .i64 r.1, .int .i64 r.2.1, .int .i64 r.2.2, .int .i64 q.1, .int .i64 q.2.1, .int .i64 q.2.2] 44)) (some ⟨w.heap.size, 0, none⟩) [r, q] := fun k hk => by
  have h := Blk.new w 44 #[.int .i64 r.1, .int .i64 r.2.1, .int .i64 r.2.2, .int .i64 q.1, .int .i64 q.2.1, .int .i64 q.2.2]
  refine ⟨_, _, rfl, h.lt, ?_⟩
  match k, hk with
  | 0, _ => exact ⟨h.cell 0, h.cell 1, h.cell 2⟩
  | 1, _ => exact ⟨h.cell 3, h.cell 4, h.cell 5⟩
theorem rg_head {w : World} {A : Option Addr} {s f t : Int} {l : List Rg} (h : RgR w A ((s, f, t) :: l)) : ∃ b o, A = some ⟨b, o, none⟩ ∧ w.cell? ⟨b, o, none⟩ = some (.int .i64 s) ∧ w.cell? ⟨b, o + 1, none⟩ = some (.int .i64 f) ∧ w.cell? ⟨b, o + 2, none⟩ = some (.int .i64 t) := by
  obtain ⟨b, o, e, _, h0, h1, h2⟩ := h 0 (by simp)
  exact ⟨b, o, e, by simpa using h0, by simpa using h1, by simpa using h2⟩
theorem rg_pair {w : World} {A : Option Addr} {s f t s' f' t' : Int} {l : List Rg} (h : RgR w A ((s, f, t) :: (s', f', t') :: l)) : ∃ b o, A = some ⟨b, o, none⟩ ∧ w.cell? ⟨b, o, none⟩ = some (.int .i64 s) ∧ w.cell? ⟨b, o + 1, none⟩ = some (.int .i64 f) ∧ w.cell? ⟨b, o + 2, none⟩ = some (.int .i64 t) ∧ w.cell? ⟨b, o + 3, none⟩ = some (.int .i64 s') ∧ w.cell? ⟨b, o + 3 + 1, none⟩ = some (.int .i64 f') ∧ w.cell? ⟨b, o + 3 + 2, none⟩ = some (.int .i64 t') := by
  obtain ⟨b, o, e, h0, h1, h2⟩ := rg_head h
  obtain ⟨b', o', e', _, g0, g1, g2⟩ := h 1 (by simp)
  obtain ⟨rfl, rfl⟩ : b = b' ∧ o = o' := by rw [e] at e'; injection e' with h; injection h with h1 h2 h3; exact ⟨h1, h2⟩
  exact ⟨b, o, e, h0, h1, h2, by simpa using g0, by simpa using g1, by simpa using g2⟩
theorem count_is (v : Int) (A : Option Addr) (n c : Nat) (l : List Rg) (hv : cntL l = v) (w : World) (hl : Can l) (h6 : n ≤ 1000000) (hA : RgR w A l) (hn : l.length = n) (hc : n ≤ c) (hm : c ≤ maxLen) :
    Calls Try.prog 16 #[.slice A n c] w fun e w' => e = .returned (.int .i64 v) ∧ Below w.heap.size w w' := by
  subst hv; exact count_any A n c l w hl h6 hA hn hc hm
set_option maxRecDepth 100000 in
set_option maxHeartbeats 8000000 in
theorem alive_any (w : World) : Calls Try.prog 10 #[] w fun e w' => e = .returned (.bool true) ∧ Below w.heap.size w w' := by
  have gq := guardRange
  have q1 := eqRange_same 1 5 7
  have q2 := eqRange_same 1 1 4
  have q3 := eqRange_same 1 8 8
  have K1 : Hid (Can [((1 : Int), (5 : Int), (5 : Int))]) := Lib.hid (canB_iff.1 (by decide))
  have K2 : Hid (Can [((1 : Int), (5 : Int), (5 : Int)), (1, 7, 7)]) := Lib.hid (canB_iff.1 (by decide))
  have K3 : Hid (Can [((1 : Int), (5 : Int), (7 : Int))]) := Lib.hid (canB_iff.1 (by decide))
  have K4 : Hid (Can [((1 : Int), (5 : Int), (7 : Int)), (1, 9, 9)]) := Lib.hid (canB_iff.1 (by decide))
  go_enter Try.func10, Try.ntmps10
  go_wp2_with (first
    | (go_at_call 18; (with_reducible refine (add_got none 0 0 [] 1 5 _ can_nil RgR.nil rfl (fun _ => rfl) (by decide) (Nat.le_refl _) (Nat.zero_le _) (by decide) (L := [(1, 5, 5)]) (m := 1) (by decide) rfl).mono ?_); rintro e w1 ⟨A1, c1, rfl, hc1, hm1, hR1, hz1, hb1⟩; have HC1 := Lib.hid hc1; have HM1 := Lib.hid hm1; have HR1 := Lib.hid hR1; have HZ1 := Lib.hid hz1; have HB1 := Lib.hid hb1; clear hc1 hm1 hR1 hz1 hb1)
    | (go_at_call 18; (with_reducible refine (add_got A1 1 c1 [(1, 5, 5)] 1 7 _ K1.out HR1.out rfl HZ1.out (by decide) HC1.out HM1.out (by decide) (L := [(1, 5, 5), (1, 7, 7)]) (m := 2) (by decide) rfl).mono ?_); rintro e w2 ⟨A2, c2, rfl, hc2, hm2, hR2, hz2, hb2⟩; have HC2 := Lib.hid hc2; have HM2 := Lib.hid hm2; have HR2 := Lib.hid hR2; have HZ2 := Lib.hid hz2; have HB2 := Lib.hid (HB1.out.trans (hb2.mono HB1.out.size)); clear hc2 hm2 hR2 hz2 hb2)
    | (go_at_call 18; (with_reducible refine (add_got A2 2 c2 [(1, 5, 5), (1, 7, 7)] 1 6 _ K2.out HR2.out rfl HZ2.out (by decide) HC2.out HM2.out (by decide) (L := [(1, 5, 7)]) (m := 1) (by decide) rfl).mono ?_); rintro e w3 ⟨A3, c3, rfl, hc3, hm3, hR3, hz3, hb3⟩; have HC3 := Lib.hid hc3; have HM3 := Lib.hid hm3; have HR3 := Lib.hid hR3; have HZ3 := Lib.hid hz3; have HB3 := Lib.hid (HB2.out.trans (hb3.mono HB2.out.size)); clear hc3 hm3 hR3 hz3 hb3)
    | (go_at_call 18; (with_reducible refine (add_no A3 1 c3 [(1, 5, 7)] 1 6 w3 K3.out HR3.out rfl (by decide) HC3.out HM3.out (by decide)).mono ?_); rintro e w4 ⟨rfl, hb4⟩; have HR4 := Lib.hid (HR3.out.below hb4); have HB4 := Lib.hid (HB3.out.trans (hb4.mono HB3.out.size)); clear hb4)
    | (go_at_call 18; (with_reducible refine (add_no A3 1 c3 [(1, 5, 7)] 1 0 w4 K3.out HR4.out rfl (by decide) HC3.out HM3.out (by decide)).mono ?_); rintro e w5 ⟨rfl, hb5⟩; have HR5 := Lib.hid (HR4.out.below hb5); have HB5 := Lib.hid (HB4.out.trans (hb5.mono HB4.out.size)); clear hb5)
    | (go_at_call 25; (with_reducible refine (missing_got _ 2 2 [(1, 5, 7), (1, 9, 9)] 1 _ K4.out (by decide) (rg_lit2 w5 (1, 5, 7) (1, 9, 9)) rfl (Nat.le_refl _) (by decide) (L := [(1, 1, 4), (1, 8, 8)]) (m := 2) (by decide) rfl).mono ?_); rintro e w6 ⟨A6, c6, rfl, hc6, hm6, hR6, hz6, hb6⟩; have hb56 : Below w5.heap.size w5 w6 := ((Below.refl _ w5).alloc (Nat.le_refl _) _).trans (hb6.mono (by simp)); have HR6 := Lib.hid (HR5.out.below hb56); have HB6 := Lib.hid (HB5.out.trans (hb56.mono HB5.out.size)); obtain ⟨b5, o5, rfl, x0, x1, x2⟩ := rg_head HR6.out; obtain ⟨b6, o6, rfl, y0, y1, y2, z0, z1, z2⟩ := rg_pair hR6; clear hc6 hm6 hR6 hz6 hb6 hb56)
    | (go_at_call 14; (with_reducible refine (has_is true (some ⟨b5, o5, none⟩) 1 c3 [(1, 5, 7)] 1 6 (by decide) w6 K3.out (by decide) HR6.out rfl HC3.out HM3.out).mono ?_); rintro e w7 ⟨rfl, hb7⟩; have HR7 := Lib.hid (HR6.out.below hb7); have HB7 := Lib.hid (HB6.out.trans (hb7.mono HB6.out.size)); clear hb7)
    | (go_at_call 14; (with_reducible refine (has_is false (some ⟨b5, o5, none⟩) 1 c3 [(1, 5, 7)] 2 6 (by decide) w7 K3.out (by decide) HR7.out rfl HC3.out HM3.out).mono ?_); rintro e w8 ⟨rfl, hb8⟩; have HR8 := Lib.hid (HR7.out.below hb8); have HB8 := Lib.hid (HB7.out.trans (hb8.mono HB7.out.size)); clear hb8)
    | (go_at_call 16; (with_reducible refine (count_is 3 (some ⟨b5, o5, none⟩) 1 c3 [(1, 5, 7)] (by decide) w8 K3.out (by decide) HR8.out rfl HC3.out HM3.out).mono ?_); rintro e w9 ⟨rfl, hb9⟩; have HB9 := Lib.hid (HB8.out.trans (hb9.mono HB8.out.size)); clear hb9))
  go_ret
  exact ⟨rfl, HB9.out⟩
end Go.Proofs.Ytgobbeommjjlfaa
