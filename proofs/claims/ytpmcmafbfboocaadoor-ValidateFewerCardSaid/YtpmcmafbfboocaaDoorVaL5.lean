/- Walk of the law on fewer units, from awake's contract. -/
import Derived.Test.YtpmcmafbfboocaaDoorVaF
import Derived.Test.YtpmcmafbfboocaaDoorVaL4
import Derived.Test.YtpmcmafbfboocaaDoorVaR
import Derived.RegionTactic
namespace Go.Proofs.YtpmcmafbfboocaaDoor.Va
open Go.RowKit

theorem chk_fewer {v0 v1 v2 va vt v5 v6 k1 u1 q1 v7 v8 z8 z7 b9 v10 b11 z10 v6' u1' q1' : Bool} (h : chkV v0 v1 v2 va vt v5 v6 k1 u1 q1 v7 v8 z8 z7 b9 v10 b11 z10 = 0) (h6 : v6' = true) (hu : u1' = true → u1 = true) (hq : q1' = true → q1 = true) :
    chkV v0 v1 v2 va vt v5 v6' k1 u1' q1' v7 v8 z8 z7 b9 v10 b11 z10 = 0 := by
  subst h6
  cases v0
  · simp [chkV] at h
  cases v1
  · simp [chkV] at h
  cases v2
  · simp [chkV] at h
  cases va
  · simp [chkV] at h
  cases vt
  · simp [chkV] at h
  cases v5
  · simp [chkV] at h
  cases v6
  · simp [chkV] at h
  cases k1
  · simpa [chkV] using h
  cases u1
  · cases q1
    · cases u1'
      · cases q1'
        · exact h
        · simp at hq
      · simp at hu
    · simp [chkV] at h
  · simp [chkV] at h
theorem chk_other {v0 v1 v2 va vt v5 v6 k1 u1 q1 v7 v8 z8 z7 b9 v10 b11 z10 : Bool} (x : Bool) (h : chkV v0 v1 v2 va vt v5 v6 k1 u1 q1 v7 v8 z8 z7 b9 v10 b11 z10 = 0) :
    chkV v0 x v2 va vt v5 v6 k1 u1 q1 v7 v8 z8 z7 b9 v10 b11 z10 = if x = true then 0 else 6 := by
  cases x
  · simp [chkV]
  · cases v1
    · simp [chkV] at h
    · rw [if_pos rfl]; exact h
theorem fewer_ok {r : Rc} {u : Int} (h : chkR r = 0) (h0 : 0 ≤ u) (h1 : u ≤ r.s6) : chkR { r with s6 := u } = 0 := by
  unfold chkR at h ⊢
  have h6 : inb r.s6 0 1099511627776 = true := by
    revert h
    cases inb r.s6 0 1099511627776
    · intro h
      unfold chkV at h
      revert h
      cases inb r.s0 1 99 <;> cases inb r.s1 1 999999999 <;> cases inb r.s2 1 4 <;> cases numB r.sa.data.toList <;> cases isT r.sb r.s2 <;> cases inb r.s5 0 12622780799 <;> simp
    · intro _; rfl
  refine chk_fewer h ?_ (fun hh => ?_) (fun hh => ?_)
  · unfold inb at h6 ⊢
    simp only [Bool.and_eq_true, decide_eq_true_eq] at h6 ⊢
    omega
  · rw [decide_eq_true_eq] at hh ⊢
    exact Int.lt_of_lt_of_le hh h1
  · rw [decide_eq_true_eq] at hh ⊢
    show _ < r.s5 + r.s6
    have hh : 12622780800 < r.s5 + u := hh
    omega
theorem other_ok {r : Rc} (s : Int) (h : chkR r = 0) : chkR { r with s1 := s } = if 1 ≤ s ∧ s ≤ 999999999 then 0 else 6 := by
  unfold chkR at h ⊢
  rw [chk_other (inb s 1 999999999) h]
  have : (inb s 1 999999999 = true) ↔ (1 ≤ s ∧ s ≤ 999999999) := by
    unfold inb; simp
  by_cases hs : 1 ≤ s ∧ s ≤ 999999999
  · rw [if_pos hs, if_pos (this.2 hs)]
  · rw [if_neg hs, if_neg (fun e => hs (this.1 e))]
theorem fzT {W : World} {b : Nat} {r : Rc} (h : RcB W b r) (i : Nat) : W.frozen? ⟨b, i, none⟩ = false := by unfold RcB at h; simp [World.frozen?, h]
theorem put1T {W : World} {b : Nat} {r : Rc} (h : RcB W b r) (x : Int) : RcB (W.setCell ⟨b, 1, none⟩ (.int .i64 x)) b { r with s1 := x } := by
  unfold RcB Rc.cells at *
  simp [World.setCell, Array.getElem?_modify, h]
theorem put6T {W : World} {b : Nat} {r : Rc} (h : RcB W b r) (x : Int) : RcB (W.setCell ⟨b, 6, none⟩ (.int .i64 x)) b { r with s6 := x } := by
  unfold RcB Rc.cells at *
  simp [World.setCell, Array.getElem?_modify, h]
theorem farT {W : World} {b c : Nat} {r : Rc} (h : RcB W c r) (hne : c ≠ b) (i : Nat) (v : Value) : RcB (W.setCell ⟨b, i, none⟩ v) c r :=
  Blk.far h hne v
/-- A record and its two copies lie in memory. -/
structure Tri (w W : World) (g p q : Nat) (a b c : Rc) : Prop where
  rg : RcB W g a
  rp : RcB W p b
  rq : RcB W q c
  gp : g ≠ p
  gq : g ≠ q
  pq : p ≠ q
  lp : w.heap.size ≤ p
  lq : w.heap.size ≤ q
  be : Below w.heap.size w W
theorem Tri.below {w W W' : World} {g p q : Nat} {a b c : Rc} (h : Tri w W g p q a b c) (hb : Below W.heap.size W W') : Tri w W' g p q a b c :=
  ⟨h.rg.below hb (heap_lt h.rg), h.rp.below hb (heap_lt h.rp), h.rq.below hb (heap_lt h.rq), h.gp, h.gq, h.pq, h.lp, h.lq, h.be.trans (hb.mono h.be.size)⟩
theorem Tri.setP {w W : World} {g p q : Nat} {a b c : Rc} (h : Tri w W g p q a b c) (x : Int) : Tri w (W.setCell ⟨p, 6, none⟩ (.int .i64 x)) g p q a { b with s6 := x } c :=
  ⟨farT h.rg h.gp _ _, put6T h.rp x, farT h.rq (Ne.symm h.pq) _ _, h.gp, h.gq, h.pq, h.lp, h.lq, Below.setCell h.be (show w.heap.size ≤ (⟨p, 6, none⟩ : Addr).block from h.lp) _⟩
theorem Tri.setQ {w W : World} {g p q : Nat} {a b c : Rc} (h : Tri w W g p q a b c) (x : Int) : Tri w (W.setCell ⟨q, 1, none⟩ (.int .i64 x)) g p q a b { c with s1 := x } :=
  ⟨farT h.rg h.gq _ _, farT h.rp h.pq _ _, put1T h.rq x, h.gp, h.gq, h.pq, h.lp, h.lq, Below.setCell h.be (show w.heap.size ≤ (⟨q, 1, none⟩ : Addr).block from h.lq) _⟩
theorem two_new {w W1 : World} {r : Rc} {g s : Nat} (hg0 : RcB W1 g r) (hb1 : Below w.heap.size w W1) (hs : W1.heap.size = s) (p q : Nat) (hp : p = s ∨ p = s + 1) (hq : q = s ∨ q = s + 1) (h1 : p ≠ q) :
    Tri w ((W1.alloc (.cells r.cells 23)).alloc (.cells r.cells 23)).drew g p q r r r := by
  have hgl : g < s := by rw [← hs]; exact heap_lt hg0
  have hws : w.heap.size ≤ s := by rw [← hs]; exact hb1.size
  have b1 : RcB (W1.alloc (.cells r.cells 23)) s r := by rw [← hs]; exact heap_alloc_new W1 _
  have b2 : RcB ((W1.alloc (.cells r.cells 23)).alloc (.cells r.cells 23)) (s + 1) r := by
    have h := heap_alloc_new (W1.alloc (.cells r.cells 23)) (.cells r.cells 23)
    rw [World.size_alloc, hs] at h
    exact h
  have hall : ∀ x, x = s ∨ x = s + 1 → RcB ((W1.alloc (.cells r.cells 23)).alloc (.cells r.cells 23)).drew x r := fun x hx => by
    rcases hx with rfl | rfl
    · exact Blk.drew (Blk.alloc b1 _)
    · exact Blk.drew b2
  refine ⟨Blk.drew (Blk.alloc (Blk.alloc hg0 _) _), hall p hp, hall q hq, by omega, by omega, h1, by omega, by omega, ?_⟩
  exact ((hb1.alloc (by omega) _).alloc (by simp; omega) _).drew
set_option maxRecDepth 100000 in
set_option maxHeartbeats 8000000 in
theorem fewerWalk (HALV : Hid Alv) (r : Rc) (u s : Int) (w : World) (hK : KN w) :
    Calls Tryd.prog 7 #[.agg r.cells, .int .i64 u, .int .i64 s] w fun e w' => e = .returned (.bool true) ∧ Below w.heap.size w w' := by
  have hb0 : Below w.heap.size w (w.alloc (.cells r.cells 23)) := (Below.refl _ w).alloc (Nat.le_refl _) _
  have hX : RcB (w.alloc (.cells r.cells 23)) w.heap.size r := heap_alloc_new w _
  have HSH := Lib.hid (short_any r)
  have HC1 : Hid (shR r = true → ∀ w, _) := Lib.hid (fun h w => vCheck_any r (shR_of h).1 (shR_of h).2 w)
  have HC3 : Hid (chkR r = 0 → shR r = true → 0 ≤ u → u ≤ r.s6 → ∀ w, Calls Tryd.prog 10 #[.agg ({ r with s6 := u } : Rc).cells] w fun e w' => e = .returned (.int .i64 0) ∧ Below w.heap.size w w') := Lib.hid (fun h0 h h1 h2 w => by
    have h3 := vCheck_any { r with s6 := u } (shR_of h).1 (shR_of h).2 w
    rw [fewer_ok h0 h1 h2] at h3
    exact h3)
  have HC2 : Hid (chkR r = 0 → shR r = true → ∀ w, Calls Tryd.prog 10 #[.agg ({ r with s1 := s } : Rc).cells] w fun e w' => e = .returned (.int .i64 (if 1 ≤ s ∧ s ≤ 999999999 then 0 else 6)) ∧ Below w.heap.size w w') := Lib.hid (fun h0 h w => by
    have h3 := vCheck_any { r with s1 := s } (shR_of h).1 (shR_of h).2 w
    rw [other_ok s h0] at h3
    exact h3)
  obtain ⟨x, hx⟩ : ∃ x, chkR r = x := ⟨_, rfl⟩
  rw [hx] at HC1 HC2 HC3
  obtain ⟨v, hv⟩ : ∃ v, shR r = v := ⟨_, rfl⟩
  rw [hv] at HSH HC1 HC2 HC3
  have HK := Lib.hid hK
  have HX := Lib.hid hX; have HB0 := Lib.hid hb0
  obtain ⟨s0, s1, s2, sa, sb, s5, s6, s7, s8, b9, s10, b11⟩ := r
  simp only [Rc.cells] at HSH HC1 HC2 HC3 HX HB0
  obtain ⟨g, hg⟩ : ∃ g, w.heap.size = g := ⟨_, rfl⟩
  rw [hg] at HX
  obtain ⟨L, hL⟩ : ∃ L, w.alloc (.cells #[.int .i64 s0, .int .i64 s1, .int .i64 s2, .string sa, .string sb, .int .i64 s5, .int .i64 s6, .int .i64 s7, .int .i64 s8, .bool b9, .int .i64 s10, .bool b11] 23) = L := ⟨_, rfl⟩
  rw [hL] at HX HB0
  obtain ⟨c0, c1, c2, c3, c4, c5, c6, c7, c8, c9, c10, c11⟩ := HX.out.cells
  simp only at c0 c1 c2 c3 c4 c5 c6 c7 c8 c9 c10 c11
  simp only [Rc.cells]
  clear hK hX hb0 hx hv
  cases v
  · clear HC1 HC2 HC3
    go_enter Tryd.func7, Tryd.ntmps7
    go_wp2_with (first
      | (go_at_call 8; (with_reducible refine (HSH.out _).mono ?_); rintro e w1 ⟨rfl, hb1⟩; have HB1 := Lib.hid (HB0.out.trans (hb1.mono HB0.out.size)); clear hb1)
      | (go_at_call 9; (with_reducible refine (HALV.out _ (HK.out.below HB1.out)).mono ?_); rintro e w9 ⟨rfl, hb9⟩))
    go_ret
    exact ⟨rfl, HB1.out.trans (hb9.mono HB1.out.size)⟩
  · replace HC1 := Lib.hid (HC1.out rfl)
    by_cases hx0 : x = 0
    · subst hx0
      replace HC2 := Lib.hid (HC2.out rfl rfl)
      replace HC3 := Lib.hid (HC3.out rfl rfl)
      go_enter Tryd.func7, Tryd.ntmps7
      go_wp2_with (first
        | (go_at_call 8; (with_reducible refine (HSH.out _).mono ?_); rintro e w1 ⟨rfl, hb1⟩; have HB1 := Lib.hid (HB0.out.trans (hb1.mono HB0.out.size)); have HX1 := Lib.hid (HX.out.below hb1 (heap_lt HX.out)); clear hb1 c0 c1 c2 c3 c4 c5 c6 c7 c8 c9 c10 c11; obtain ⟨c0, c1, c2, c3, c4, c5, c6, c7, c8, c9, c10, c11⟩ := HX1.out.cells; simp only at c0 c1 c2 c3 c4 c5 c6 c7 c8 c9 c10 c11)
        | (go_at_call 10; (with_reducible refine (HC1.out _).mono ?_); rintro e w2 ⟨rfl, hb2⟩; have HB2 := Lib.hid (HB1.out.trans (hb2.mono HB1.out.size)); have HX2 := Lib.hid (HX1.out.below hb2 (heap_lt HX1.out)); clear hb2 c0 c1 c2 c3 c4 c5 c6 c7 c8 c9 c10 c11; obtain ⟨c0, c1, c2, c3, c4, c5, c6, c7, c8, c9, c10, c11⟩ := HX2.out.cells; simp only at c0 c1 c2 c3 c4 c5 c6 c7 c8 c9 c10 c11))
      rename_i Q0 K0 HK0
      have key : ∀ (p q : Nat) (W2 : World), Tri w W2 g p q (⟨s0, s1, s2, sa, sb, s5, s6, s7, s8, b9, s10, b11⟩ : Rc) (⟨s0, s1, s2, sa, sb, s5, s6, s7, s8, b9, s10, b11⟩ : Rc) (⟨s0, s1, s2, sa, sb, s5, s6, s7, s8, b9, s10, b11⟩ : Rc) → K0 { tmps := #[.agg #[.int .i64 s0, .int .i64 s1, .int .i64 s2, .string sa, .string sb, .int .i64 s5, .int .i64 s6, .int .i64 s7, .int .i64 s8, .bool b9, .int .i64 s10, .bool b11], .int .i64 u, .int .i64 s, .pointer (some ⟨g, 0, none⟩), undef, undef, .bool false, .pointer (some ⟨p, 0, none⟩), .pointer (some ⟨q, 0, none⟩), .agg #[.int .i64 s0, .int .i64 s1, .int .i64 s2, .string sa, .string sb, .int .i64 s5, .int .i64 s6, .int .i64 s7, .int .i64 s8, .bool b9, .int .i64 s10, .bool b11], .bool true, .bool false, .bool false, .agg #[.int .i64 s0, .int .i64 s1, .int .i64 s2, .string sa, .string sb, .int .i64 s5, .int .i64 s6, .int .i64 s7, .int .i64 s8, .bool b9, .int .i64 s10, .bool b11], .int .i64 0, .bool false, .bool false, undef, .agg #[.int .i64 s0, .int .i64 s1, .int .i64 s2, .string sa, .string sb, .int .i64 s5, .int .i64 s6, .int .i64 s7, .int .i64 s8, .bool b9, .int .i64 s10, .bool b11], .agg #[.int .i64 s0, .int .i64 s1, .int .i64 s2, .string sa, .string sb, .int .i64 s5, .int .i64 s6, .int .i64 s7, .int .i64 s8, .bool b9, .int .i64 s10, .bool b11], undef, undef, undef, undef, undef, undef, undef, undef, undef, undef, undef, undef, undef, undef, undef, undef, undef, undef, undef, undef, undef, undef, undef, undef, undef, undef, undef, undef, undef, undef, undef, undef, undef, undef, undef, undef, undef, undef, undef, undef, undef, undef, undef], defers := [] } W2 := by
        intro p q W2 hf
        refine HK0 _ _ ?_
        have F0 := Lib.hid hf
        clear HK0 hf c0 c1 c2 c3 c4 c5 c6 c7 c8 c9 c10 c11 hL
        refine wp_seq_k fun K1 h1 => ?_
        have H1 := Lib.hid h1
        clear h1
        obtain ⟨c0, c1, c2, c3, c4, c5, c6, c7, c8, c9, c10, c11⟩ := F0.out.rp.cells
        have fz := fzT F0.out.rp 6
        go_wp2_with fail
        have F1 := Lib.hid (F0.out.setP u)
        clear c0 c1 c2 c3 c4 c5 c6 c7 c8 c9 c10 c11 fz F0
        refine H1.out _ _ ?_
        clear H1
        obtain ⟨WA, hWA⟩ : ∃ W, W2.setCell ⟨p, 6, none⟩ (.int .i64 u) = W := ⟨_, rfl⟩
        rw [hWA] at F1 ⊢
        clear hWA
        refine wp_seq_k fun K1 h1 => ?_
        have H1 := Lib.hid h1
        clear h1
        obtain ⟨c0, c1, c2, c3, c4, c5, c6, c7, c8, c9, c10, c11⟩ := F1.out.rq.cells
        have fz := fzT F1.out.rq 1
        go_wp2_with fail
        have F2 := Lib.hid (F1.out.setQ s)
        clear c0 c1 c2 c3 c4 c5 c6 c7 c8 c9 c10 c11 fz F1
        refine H1.out _ _ ?_
        clear H1
        obtain ⟨WB, hWB⟩ : ∃ W, WA.setCell ⟨q, 1, none⟩ (.int .i64 s) = W := ⟨_, rfl⟩
        rw [hWB] at F2 ⊢
        clear hWB
        obtain ⟨c0, c1, c2, c3, c4, c5, c6, c7, c8, c9, c10, c11⟩ := F2.out.rg.cells
        obtain ⟨d0, d1, d2, d3, d4, d5, d6, d7, d8, d9, d10, d11⟩ := F2.out.rp.cells
        obtain ⟨f0, f1, f2, f3, f4, f5, f6, f7, f8, f9, f10, f11⟩ := F2.out.rq.cells
        simp only at c0 c1 c2 c3 c4 c5 c6 c7 c8 c9 c10 c11 d0 d1 d2 d3 d4 d5 d6 d7 d8 d9 d10 d11 f0 f1 f2 f3 f4 f5 f6 f7 f8 f9 f10 f11
        have hu : u < 0 ∨ (0 ≤ u ∧ s6 < u) ∨ (0 ≤ u ∧ u ≤ s6) := by omega
        have hs : s < 1 ∨ (1 ≤ s ∧ 999999999 < s) ∨ (1 ≤ s ∧ s ≤ 999999999) := by omega
        rcases hs with hs1 | ⟨hs1, hs2⟩ | ⟨hs1, hs2⟩
        case' inl => rw [if_neg (by omega)] at HC2
        case' inr.inl => rw [if_neg (by omega)] at HC2
        case' inr.inr => rw [if_pos (by omega)] at HC2
        all_goals
          rcases hu with hu1 | ⟨hu1, hu2⟩ | ⟨hu1, hu2⟩
          case' inr.inr => replace HC3 := Lib.hid (HC3.out hu1 hu2)
          all_goals
            go_wp2_with (first
              | (go_at_call 10; (with_reducible refine (HC3.out _).mono ?_); rintro e w3 ⟨rfl, hb3⟩; have F3 := Lib.hid (F2.out.below hb3); clear f0 f1 f2 f3 f4 f5 f6 f7 f8 f9 f10 f11; obtain ⟨f0, f1, f2, f3, f4, f5, f6, f7, f8, f9, f10, f11⟩ := F3.out.rq.cells; simp only at f0 f1 f2 f3 f4 f5 f6 f7 f8 f9 f10 f11; clear hb3)
              | (go_at_call 10; (with_reducible refine (HC2.out _).mono ?_); rintro e w4 ⟨rfl, hb4⟩; have F4 := Lib.hid (F3.out.below hb4); clear f0 f1 f2 f3 f4 f5 f6 f7 f8 f9 f10 f11; obtain ⟨f0, f1, f2, f3, f4, f5, f6, f7, f8, f9, f10, f11⟩ := F4.out.rq.cells; simp only at f0 f1 f2 f3 f4 f5 f6 f7 f8 f9 f10 f11; clear hb4)
              | (go_at_call 10; (with_reducible refine (HC2.out _).mono ?_); rintro e w4 ⟨rfl, hb4⟩; have F4 := Lib.hid (F2.out.below hb4); clear f0 f1 f2 f3 f4 f5 f6 f7 f8 f9 f10 f11; obtain ⟨f0, f1, f2, f3, f4, f5, f6, f7, f8, f9, f10, f11⟩ := F4.out.rq.cells; simp only at f0 f1 f2 f3 f4 f5 f6 f7 f8 f9 f10 f11; clear hb4)
              | (go_at_call 10; (with_reducible refine (HC2.out _).mono ?_); rintro e w5 ⟨rfl, hb5⟩; have F5 := Lib.hid (F4.out.below hb5); clear hb5)
              | (go_at_call 9; (with_reducible refine (HALV.out _ (HK.out.below F5.out.be)).mono ?_); rintro e w9 ⟨rfl, hb9⟩; have HB9 := Lib.hid (F5.out.be.trans (hb9.mono F5.out.be.size)); clear hb9)
              | (go_at_call 9; (with_reducible refine (HALV.out _ (HK.out.below F4.out.be)).mono ?_); rintro e w9 ⟨rfl, hb9⟩; have HB9 := Lib.hid (F4.out.be.trans (hb9.mono F4.out.be.size)); clear hb9))
            go_ret
            first
              | exact ⟨rfl, HB9.out⟩
              | exact ⟨ret_bool (by rw [decide_eq_false (by omega), decide_eq_false (by omega)]; rfl), HB9.out⟩
      have HKEY := Lib.hid key
      clear key HK0 HC1 HC2 HC3 HK HSH
      obtain ⟨m, hm⟩ : ∃ m, w2.heap.size = m := ⟨_, rfl⟩
      have hgm : g < m := by rw [← hm]; exact heap_lt HX2.out
      have n0 : m ≠ g := by omega
      have n1 : m + 1 ≠ g := by omega
      have r1 : ∀ o1 i, (w2.alloc o1).cell? ⟨g, i, none⟩ = w2.cell? ⟨g, i, none⟩ := fun _ i => Below.cell (B := g + 1) (p := ⟨g, i, none⟩) ((Below.refl _ w2).alloc (by omega) _) (by show g < g + 1; omega)
      have r2 : ∀ o1 o2 i, ((w2.alloc o1).alloc o2).cell? ⟨g, i, none⟩ = w2.cell? ⟨g, i, none⟩ := fun _ _ i => Below.cell (B := g + 1) (p := ⟨g, i, none⟩) (((Below.refl _ w2).alloc (by omega) _).alloc (by simp; omega) _) (by show g < g + 1; omega)
      have HFR : Hid (∀ p q, (p = m ∨ p = m + 1) → (q = m ∨ q = m + 1) → p ≠ q → Tri w ((w2.alloc (.cells #[.int .i64 s0, .int .i64 s1, .int .i64 s2, .string sa, .string sb, .int .i64 s5, .int .i64 s6, .int .i64 s7, .int .i64 s8, .bool b9, .int .i64 s10, .bool b11] 23)).alloc (.cells #[.int .i64 s0, .int .i64 s1, .int .i64 s2, .string sa, .string sb, .int .i64 s5, .int .i64 s6, .int .i64 s7, .int .i64 s8, .bool b9, .int .i64 s10, .bool b11] 23)).drew g p q ⟨s0, s1, s2, sa, sb, s5, s6, s7, s8, b9, s10, b11⟩ ⟨s0, s1, s2, sa, sb, s5, s6, s7, s8, b9, s10, b11⟩ ⟨s0, s1, s2, sa, sb, s5, s6, s7, s8, b9, s10, b11⟩) := Lib.hid (two_new HX2.out HB2.out hm)
      go_region
      all_goals
        refine HKEY.out _ _ _ (HFR.out _ _ ?_ ?_ ?_) <;> omega
    · have hq : (x == 0) = false := by simp [hx0]
      clear hx0 HC2 HC3
      go_enter Tryd.func7, Tryd.ntmps7
      go_wp2_with (first
        | (go_at_call 8; (with_reducible refine (HSH.out _).mono ?_); rintro e w1 ⟨rfl, hb1⟩; have HB1 := Lib.hid (HB0.out.trans (hb1.mono HB0.out.size)); have HX1 := Lib.hid (HX.out.below hb1 (heap_lt HX.out)); clear hb1 c0 c1 c2 c3 c4 c5 c6 c7 c8 c9 c10 c11; obtain ⟨c0, c1, c2, c3, c4, c5, c6, c7, c8, c9, c10, c11⟩ := HX1.out.cells; simp only at c0 c1 c2 c3 c4 c5 c6 c7 c8 c9 c10 c11)
        | (go_at_call 10; (with_reducible refine (HC1.out _).mono ?_); rintro e w2 ⟨rfl, hb2⟩; have HB2 := Lib.hid (HB1.out.trans (hb2.mono HB1.out.size)); clear hb2)
        | (go_at_call 9; (with_reducible refine (HALV.out _ (HK.out.below HB2.out)).mono ?_); rintro e w9 ⟨rfl, hb9⟩))
      go_ret
      exact ⟨rfl, HB2.out.trans (hb9.mono HB2.out.size)⟩
end Go.Proofs.YtpmcmafbfboocaaDoor.Va
