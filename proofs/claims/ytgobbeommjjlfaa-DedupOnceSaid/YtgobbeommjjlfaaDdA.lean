/- Walks: Clone; Add, of the program and of the reference; Same. -/
import Derived.Test.YtgobbeommjjlfaaDdJ
namespace Go.Proofs.Ytgobbeommjjlfaa
open Go.RowKit

theorem own_lit3 (w : World) (e : TypeId) : (w.alloc (.cells #[] e)).ownsRow w.heap.size e 3 (.slice (some ⟨w.heap.size, 0, none⟩) 0 0) 0 [] :=
  ⟨rfl, .inr ⟨w.heap.size, 0, #[], rfl, Nat.le_refl _, heap_alloc_new _ _, by omega, by decide, rfl, rfl⟩⟩
theorem rg_src {w : World} {b off : Nat} {l : List Rg} (h : RgR w (some ⟨b, off, none⟩) l) : ∀ j u, (rcl l)[j]? = some u → w.cell? ((⟨b, off, none⟩ : Addr).add j) = some u := fun j u hj => by
  have hlt : j < l.length * 3 := by rw [← rcl_len]; exact (List.getElem?_eq_some_iff.1 hj).1
  obtain ⟨b', off', he, _, h0, h1, h2⟩ := h (j / 3) (by omega)
  obtain ⟨rfl, rfl⟩ : b = b' ∧ off = off' := by injection he with h; injection h with h1 h2 h3; exact ⟨h1, h2⟩
  obtain ⟨a0, a1, a2⟩ := rcl_at (l := l) (k := j / 3) (by omega)
  rw [add_none]
  rcases (by omega : j = j / 3 * 3 ∨ j = j / 3 * 3 + 1 ∨ j = j / 3 * 3 + 2) with e | e | e
  · rw [e] at hj ⊢; rw [a0] at hj; rw [← hj]; exact h0
  · rw [e] at hj ⊢; rw [a1] at hj; rw [← hj, ← Nat.add_assoc]; exact h1
  · rw [e] at hj ⊢; rw [a2] at hj; rw [← hj, ← Nat.add_assoc]; exact h2
theorem rg_addr {w : World} {A : Option Addr} {l : List Rg} (h : RgR w A l) (hn : A = none → l = []) (hA : A ≠ none) : ∃ a, A = some a ∧ ∀ j u, (rcl l)[j]? = some u → w.cell? (a.add j) = some u := by
  cases l with
  | nil =>
    cases A with
    | none => exact absurd rfl hA
    | some a => exact ⟨a, rfl, fun j u hj => by simp [rcl] at hj⟩
  | cons r l =>
    obtain ⟨b, off, rfl, _⟩ := h 0 (by simp)
    exact ⟨_, rfl, rg_src h⟩
/-- What the call owns, and the rest as it was. -/
def OwnOut (m : Nat) (l : List Rg) (w : World) (e : Ending) (w' : World) : Prop :=
  ∃ v', e = .returned v' ∧ w'.ownsRow w.heap.size 44 3 v' m (rcl l) ∧ Below w.heap.size w w'
set_option maxRecDepth 100000 in
set_option maxHeartbeats 4000000 in
theorem clone_any (A : Option Addr) (n c : Nat) (l : List Rg) (w : World) (hA : RgR w A l) (hn : l.length = n) (h0 : A = none → n = 0) (h6 : n ≤ 1000000) :
    Calls Try.prog 33 #[.slice A n c] w (OwnOut n l w) := by
  obtain ⟨i0, hi0, hz0, hz1, hz2⟩ := info_parts rangeInfo
  have hnil : ∀ (a : Option Addr), (binOp .eql 22 (.slice a n c) (.slice none 0 0)).run Try.prog w = .ok (.bool a.isNone) w := fun a => Lib.run_eql_slice_nil w 22 44 a n c 0 0 Try.underlying22
  cases A with
  | none =>
    have h0 := h0 rfl
    subst h0
    obtain rfl : l = [] := by simpa using hn
    clear hA
    go_enter Try.func33, Try.ntmps33
    go_wp2
    go_ret
    exact ⟨_, rfl, World.ownsRow_nil _ _ _ _, Below.refl _ _⟩
  | some a =>
    obtain ⟨a', ha', hsrc⟩ := rg_addr hA (by simp) (by simp)
    obtain rfl : a = a' := by injection ha'
    have hnil1 := hnil (some a)
    rw [show (some a : Option Addr).isNone = false from rfl] at hnil1
    have HS := Lib.hid hsrc; have HN := Lib.hid hn
    have hb0 : Below w.heap.size w (w.alloc (.cells #[] 44)) := (Below.refl _ w).alloc (Nat.le_refl _) _
    have HB0 := Lib.hid hb0
    have HOL := Lib.hid (own_lit3 w 44)
    have HSR : Hid (∀ j u, (rcl l)[j]? = some u → (w.alloc (.cells #[] 44)).cell? (a.add j) = some u) := Lib.hid fun j u hj => by
      have := HS.out j u hj
      exact (hb0.cell (by rw [show (a.add j).block = (a.add j).block from rfl]; exact cell_block_lt this)).trans this
    clear hA hsrc hn ha' hnil hb0 h0
    go_enter Try.func33, Try.ntmps33
    go_wp2_with (at_builtin; refine wpList_append_own _ rfl (.tmp 5) (.tmp 6) 22 rfl w.heap.size 44 i0 _ 3 24 Try.underlying22 hi0 hz0 hz1 hz2 rfl (by decide) _ 0 [] rfl HOL.out a n c (rcl l) rfl (by rw [rcl_len, HN.out]) HSR.out (rcl_one _) (by unfold maxLen; omega) (by omega) (by simp) ?_; intro v' w' g1 g2 _)
    go_ret
    refine ⟨v', rfl, by simpa using g1, HB0.out.grown g2 (by simp) (fun k hk => ?_)⟩
    have := (World.ownsRow.lt HOL.out k hk).1
    omega
/-- What Add returns. -/
def AddYes (L : List Rg) (w : World) (e : Ending) (w' : World) : Prop :=
  ∃ v', e = .returned (.tuple #[v', .bool true]) ∧ w'.ownsRow w.heap.size 44 3 v' L.length (rcl L) ∧ Below w.heap.size w w'
theorem own_mono {w : World} {base base' e size n : Nat} {v : Value} {xs : List Value} (h : w.ownsRow base e size v n xs) (hb : base' ≤ base) : w.ownsRow base' e size v n xs :=
  ⟨h.1, h.2.imp id fun ⟨g, cap, cur, a, b, r⟩ => ⟨g, cap, cur, a, by omega, r⟩⟩
theorem rfs_zero {l : List Rg} {s x : Int} : rfs l s x = 0 ↔ idB s x = true ∧ hasL l s x = false := by
  unfold rfs
  cases idB s x <;> cases hasL l s x <;> simp
set_option maxRecDepth 100000 in
set_option maxHeartbeats 4000000 in
theorem add_yes (A : Option Addr) (n c : Nat) (l : List Rg) (s x : Int) (w : World) (hl : Can l) (hA : RgR w A l) (hn : l.length = n) (h0 : A = none → n = 0) (h6 : n ≤ 1000000) (hc : n ≤ c) (hm : c ≤ maxLen) (hr : rfs l s x = 0) :
    Calls Try.prog 18 #[.slice A n c, .int .i64 s, .int .i64 x] w (AddYes (adL s x l) w) := by
  have HRF := Lib.hid (refusal_any A n c l s x w hl h6 hA hn hc hm)
  obtain ⟨r1, r2⟩ := rfs_zero.1 hr
  rw [hr] at HRF
  have HCL := Lib.hid (fun W (h : Below w.heap.size w W) => clone_any A n c l W (hA.below h) hn h0 h6)
  have HIN := Lib.hid (fun base v W (h : World.ownsRow W base 44 3 v n (rcl l)) hb => insert_any base v n l s x W hl r1 r2 h hn h6 hb)
  clear hA hl hn hr r1 r2
  go_enter Try.func18, Try.ntmps18
  go_wp2_with (first
    | (go_at_call 31; (with_reducible refine HRF.out.mono ?_); rintro e w1 ⟨rfl, hb1⟩; have HB1 := Lib.hid hb1; clear hb1)
    | (go_at_call 33; (with_reducible refine (HCL.out _ HB1.out).mono ?_); rintro e w2 ⟨v2, rfl, ho2, hb2⟩; have HO2 := Lib.hid ho2; have HB2 := Lib.hid hb2; clear ho2 hb2)
    | (go_at_call 32; (with_reducible refine (HIN.out w1.heap.size _ _ HO2.out HB2.out.size).mono ?_); rintro e w3 ⟨v3, rfl, ho3, hg3, -⟩))
  go_ret2
  have hs1 := HB1.out.size
  have hb12 := HB1.out.trans (HB2.out.mono hs1)
  refine ⟨v3, rfl, own_mono ho3 hs1, hb12.grown hg3 hb12.size (fun k hk => ?_)⟩
  have := (World.ownsRow.lt HO2.out k hk).1
  omega
set_option maxRecDepth 100000 in
set_option maxHeartbeats 4000000 in
theorem add_no (A : Option Addr) (n c : Nat) (l : List Rg) (s x : Int) (w : World) (hl : Can l) (hA : RgR w A l) (hn : l.length = n) (h6 : n ≤ 1000000) (hc : n ≤ c) (hm : c ≤ maxLen) (hr : rfs l s x ≠ 0) :
    Calls Try.prog 18 #[.slice A n c, .int .i64 s, .int .i64 x] w fun e w' => e = .returned (.tuple #[.slice none 0 0, .bool false]) ∧ Below w.heap.size w w' := by
  have HRF := Lib.hid (refusal_any A n c l s x w hl h6 hA hn hc hm)
  have hrq : (rfs l s x == 0) = false := by simp [hr]
  obtain ⟨R, hR⟩ : ∃ R, rfs l s x = R := ⟨_, rfl⟩
  rw [hR] at HRF hrq
  clear hA hl hn hr hR
  go_enter Try.func18, Try.ntmps18
  go_wp2_with (go_at_call 31; (with_reducible refine HRF.out.mono ?_); rintro e w1 ⟨rfl, hb1⟩; have HB1 := Lib.hid hb1; clear hb1)
  go_ret2
  exact ⟨rfl, HB1.out⟩
end Go.Proofs.Ytgobbeommjjlfaa
