/- Walk: All of the program. -/
import Derived.Test.YtinnmnhaeejfdaaTgCo
namespace Go.Proofs.Ytinnmnhaeejfdaa.Va
open Go.RowKit

theorem sliceInfo : (Try.prog.info? 25).map (fun i => (i.zero, i.size, i.bytes)) = some (some (.slice none 0 0), 1, 24) := by kernel_rfl
theorem cell_one_any (w : World) (x : Value) (e : TypeId) : ∀ j u, [x][j]? = some u → (w.alloc (.cells #[x] e)).cell? ((⟨w.heap.size, 0, none⟩ : Addr).add j) = some u := by
  intro j u hu
  have ha : ((⟨w.heap.size, 0, none⟩ : Addr).add j) = ⟨w.heap.size, j, none⟩ := by unfold Addr.add; split <;> simp_all
  rw [ha, cell_of_row _ _ _ _ _ (0, 0) (heap_alloc_new _ _)]
  simpa using hu
/-- The first k parts. -/
def prts (bk off c : Nat) (C : List (Nat × Nat)) (k : Nat) : List Value := (C.take k).map fun a => .slice (some ⟨bk, off + a.1, none⟩) (a.2 - a.1) (c - a.1)
theorem prts_succ {bk off c k : Nat} {C : List (Nat × Nat)} {a : Nat × Nat} (h : C[k]? = some a) : prts bk off c C (k + 1) = prts bk off c C k ++ [.slice (some ⟨bk, off + a.1, none⟩) (a.2 - a.1) (c - a.1)] := by
  unfold prts
  obtain ⟨hk, he⟩ := List.getElem?_eq_some_iff.1 h
  rw [← List.take_append_getElem hk, List.map_append, he]
  rfl
theorem row_slice {w : World} {base k : Nat} {v : Value} {xs : List Value} (h : w.ownsRow base 25 1 v k xs) : ∃ Ap cp, v = .slice Ap k cp := by
  by_cases h0 : 0 < k
  · obtain ⟨g, cp, rfl, -, hg⟩ := h.form h0
    exact ⟨_, _, rfl⟩
  · obtain rfl : k = 0 := by omega
    rcases h.2 with ⟨rfl, -⟩ | ⟨g, cap, cur, rfl, -⟩
    · exact ⟨_, _, rfl⟩
    · exact ⟨_, _, rfl⟩
theorem parts_own {w : World} {base bk off c : Nat} {C : List (Nat × Nat)} {N : Nat} {Ap : Option Addr} {cx : Nat} (hN : N ≤ C.length) (h : w.ownsRow base 25 1 (.slice Ap N cx) N (prts bk off c C N)) :
    PartsR w Ap bk N (fun k => off + (C.getD k (0, 0)).1) (fun k => (C.getD k (0, 0)).2 - (C.getD k (0, 0)).1) (fun k => c - (C.getD k (0, 0)).1) := by
  intro k hk
  obtain ⟨g, cp, hv, -, hg⟩ := h.form (by omega)
  injection hv with h1 h2 h3
  subst h1 h3
  refine ⟨g, rfl, hg, ?_⟩
  rw [h.cellAt k (by omega)]
  have hkC : k < C.length := by omega
  simp [prts, List.getElem?_take, hk, List.getElem?_eq_getElem hkC]
theorem two_shift {w wr w' : World} {D : List Rc} {E : Nat → Int} {N : Nat} {v u : Value} (hb : Below w.heap.size w wr) (h : Two wr NoB D E N v u NoB w') : Two w NoB D E N v u NoB w' where
  ov := own_mono h.ov hb.size
  ou := own_mono h.ou hb.size
  vu := h.vu
  vF := fun _ _ hf => hf
  uF := fun _ _ hf => hf
  old := fun _ hf => hf.elim
  lt := fun _ hf => hf.elim
  ch := chg_below (hb.trans ((two_below h).mono hb.size))
/-- What the length of the record at p says. -/
theorem ext_at {w : World} {bk off n c p e : Nat} {l : List Int} (h : Byt w (some ⟨bk, off, none⟩) n c l) (hn : n ≤ 3000) (hp : p < n) (he : nx l p = e) (b : Bool) (hb : decide (n < p + 2 ∨ n < e) = b) :
    Calls Try.prog 32 #[.slice (some ⟨bk, off + p, none⟩) (n - p) (c - p)] w fun r w' => r = .returned (.tuple #[.int .i64 (if b then 0 else (((e - p : Nat) : Nat) : Int)), .int .i64 (if b then 2 else 0)]) ∧ Below w.heap.size w w' := by
  have hl := h.len
  have hd := byt_drop h p (by omega)
  by_cases h2 : n < p + 2
  · obtain rfl : b = true := by rw [← hb]; exact decide_eq_true (.inl h2)
    exact extent_short (by omega)
  · obtain ⟨x, hx⟩ : ∃ x, l[p]? = some x := ⟨_, List.getElem?_eq_getElem (by omega)⟩
    obtain ⟨y, hy⟩ : ∃ y, l[p + 1]? = some y := ⟨_, List.getElem?_eq_getElem (by omega)⟩
    have hx0 := (h.ran x (List.mem_of_getElem? hx)).1
    have hy0 := (h.ran y (List.mem_of_getElem? hy)).1
    have hnx := nx_is hx hy hx0 hy0
    rw [he] at hnx
    have hdr : l.drop p = x :: y :: l.drop (p + 2) := by
      obtain ⟨q0, e0⟩ := List.getElem?_eq_some_iff.1 hx
      obtain ⟨q1, e1⟩ := List.getElem?_eq_some_iff.1 hy
      rw [List.drop_eq_getElem_cons q0, List.drop_eq_getElem_cons q1, e0, e1]
    rw [hdr] at hd
    have hlt : (l.drop (p + 2)).length = n - p - 2 := by rw [List.length_drop]; omega
    have := extent_any hd (by omega)
    rw [hlt] at this
    cases b with
    | true =>
      have hne : n < e := by rcases of_decide_eq_true hb with h9 | h9 <;> omega
      rw [if_pos (by omega), if_pos (by omega)] at this
      exact this
    | false =>
      have hne : ¬ n < e := fun h9 => absurd hb (by simp [h9])
      rw [if_neg (by omega), if_neg (by omega)] at this
      simp only [Bool.false_eq_true, if_false]
      rw [show (((e - p : Nat) : Nat) : Int) = 2 + x * 256 + y by omega]
      exact this
def SplOut (l : List Int) (c bk off : Nat) (w : World) (r : Ending) (w' : World) : Prop :=
  (allK l = false ∧ r = .returned (.tuple #[.slice none 0 0, .int .i64 2]) ∧ Below w.heap.size w w') ∨
  (allK l = true ∧ ∃ Ap cx, r = .returned (.tuple #[.slice Ap (allC l).length cx, .int .i64 0]) ∧ PartsR w' Ap bk (allC l).length (fun k => off + ((allC l).getD k (0, 0)).1) (fun k => ((allC l).getD k (0, 0)).2 - ((allC l).getD k (0, 0)).1) (fun k => c - ((allC l).getD k (0, 0)).1) ∧ Below w.heap.size w w')
set_option maxRecDepth 100000 in
set_option maxHeartbeats 16000000 in
theorem split_any {w : World} {A : Option Addr} {n c : Nat} {l : List Int} (h : Byt w A n c l) (hn : n ≤ 3000) (bk off : Nat) (hA : 0 < n → A = some ⟨bk, off, none⟩) :
    Calls Try.prog 35 #[.slice A n c] w (SplOut l c bk off w) := by
  obtain ⟨i0, hi0, hz0, hz1, hz2⟩ := info_parts sliceInfo
  have HLN := Lib.hid h.len
  have hcap := h.cap
  have HA := Lib.hid h; have HAE := Lib.hid hA; have HNN := Lib.hid hn
  have HC0 := Lib.hid (Cut.start l)
  have HV0 : Hid (w.ownsRow w.heap.size 25 1 (.slice none 0 0) 0 (prts bk off c (allC l) 0)) := Lib.hid (World.ownsRow_nil _ _ _ _)
  have HBAD : Hid (∀ e w', allK l = false → e = .returned (.tuple #[.slice none 0 0, .int .i64 2]) → Below w.heap.size w w' → SplOut l c bk off w e w') := Lib.hid (fun e w' h1 h2 h3 => .inl ⟨h1, h2, h3⟩)
  have HGOOD : Hid (∀ e w' N Ap cx, allK l = true → (allC l).length = N → e = .returned (.tuple #[.slice Ap N cx, .int .i64 0]) → w'.ownsRow w.heap.size 25 1 (.slice Ap N cx) N (prts bk off c (allC l) N) → Below w.heap.size w w' → SplOut l c bk off w e w') := Lib.hid (fun e w' N Ap cx h1 h2 h3 h4 h5 => by
    subst h2
    exact .inr ⟨h1, Ap, cx, h3, parts_own (Nat.le_refl _) h4, h5⟩)
  clear h hA
  go_enter Try.func35, Try.ntmps35
  go_wp2_with fail
  go_loopw [4, 5] (fun v rv wr => ∃ (k p : Nat) (R : Option Addr) (v' : Value), v' = v ∧ rv = .slice R (n - p) (c - p) ∧ Hid (Cut l (allC l) (allK l) k p) ∧ Hid (p < n → R = some ⟨bk, off + p, none⟩) ∧ Hid (wr.ownsRow w.heap.size 25 1 v' k (prts bk off c (allC l) k)) ∧ Hid (Below w.heap.size w wr)) (fun _ rv _ => (match rv with | .slice _ m _ => m | _ => 0))
  case atStart => exact ⟨0, 0, A, _, rfl, by simp, HC0, Lib.hid (fun h0 => by rw [HAE.out h0]; simp), HV0, Lib.hid (Below.refl _ _)⟩
  case round =>
    obtain ⟨k, p, R, v, rfl, rfl, HC, HR, HV, HB⟩ := hrel
    have hpn : p ≤ n := by have := HC.out.pn; have := HLN.out; omega
    have hk2 : 2 * k ≤ p := HC.out.two
    obtain ⟨s, hs⟩ : ∃ s, n - p = s := ⟨_, rfl⟩
    obtain ⟨q, hq⟩ : ∃ q, c - p = q := ⟨_, rfl⟩
    obtain ⟨Av, cv, rfl⟩ := row_slice HV.out
    rw [hs, hq]
    have hsq : s ≤ q := by omega
    by_cases hlt : p < n
    · have hs0 : (0 : Int) < (s : Int) := by omega
      have hs0n : 0 < s := by omega
      have hkm : ((k : Int) == 4096) = false := by simp; omega
      have hkn : (k == 4096) = false := by simp; omega
      obtain rfl := HR.out hlt
      obtain ⟨e, he⟩ : ∃ e, nx l p = e := ⟨_, rfl⟩
      obtain ⟨b, hb⟩ : ∃ b, decide (n < p + 2 ∨ n < e) = b := ⟨_, rfl⟩
      have hext : ∀ W, Below w.heap.size w W → Calls Try.prog 32 #[.slice (some ⟨bk, off + p, none⟩) s q] W fun r w' => r = .returned (.tuple #[.int .i64 (if b then 0 else (((e - p : Nat) : Nat) : Int)), .int .i64 (if b then 2 else 0)]) ∧ Below W.heap.size W w' := fun W hW => by
        have hy := HA.out.below hW
        rw [HAE.out (by omega)] at hy
        rw [← hs, ← hq]
        exact ext_at hy hn hlt he b hb
      have HEX := Lib.hid hext
      obtain ⟨o, ho⟩ : ∃ o, off + p = o := ⟨_, rfl⟩
      rw [ho] at HEX ⊢
      have HO := Lib.hid ho
      cases b with
      | true =>
        have HBA := Lib.hid (HC.out.bad (by have := HLN.out; omega) (by rw [he, HLN.out]; exact of_decide_eq_true hb))
        simp only [if_true] at HEX
        clear hext hb he ho hs hq hpn hk2
        go_wp2_with (go_at_call 32; (with_reducible refine (HEX.out _ HB.out).mono ?_); rintro r w2 ⟨rfl, hb2⟩; have HB2 := Lib.hid (HB.out.trans (hb2.mono HB.out.size)); clear hb2)
        go_ret2
        exact HBAD.out _ _ HBA.out rfl HB2.out
      | false =>
        have hnb : ¬ (n < p + 2 ∨ n < e) := of_decide_eq_false hb
        have HST := Lib.hid (HC.out.step (by have := HLN.out; omega) (by have := HLN.out; omega) (by rw [he]; have := HLN.out; omega))
        rw [he] at HST
        simp only [Bool.false_eq_true, if_false] at HEX
        have hpe : p + 2 ≤ e := by rw [← he]; unfold nx; omega
        obtain ⟨d, hd⟩ : ∃ d, e - p = d := ⟨_, rfl⟩
        rw [hd] at HEX
        have hds : d ≤ s := by omega
        have hdi : (d : Int) ≤ (s : Int) := by omega
        have hdq : (d : Int) ≤ (q : Int) := by omega
        have hd0 : (0 : Int) ≤ (d : Int) := by omega
        have hd1 : 0 < d := by omega
        have HPS : Hid (prts bk off c (allC l) (k + 1) = prts bk off c (allC l) k ++ [.slice (some ⟨bk, o, none⟩) d q]) := Lib.hid (by
          rw [prts_succ HST.out.1]
          show _ ++ [Value.slice (some ⟨bk, off + p, none⟩) (e - p) (c - p)] = _
          rw [ho, hd, hq])
        have HN1 : Hid (n - e = s - d) := Lib.hid (by omega)
        have HN2 : Hid (c - e = q - d) := Lib.hid (by omega)
        have HN3 : Hid (e < n → ¬ q = d) := Lib.hid (by omega)
        have HN4 : Hid (o + d = off + e) := Lib.hid (by omega)
        have HK2 : Hid (k ≤ 1500) := Lib.hid (by omega)
        clear hext hb he ho hs hq hpn hk2 hnb hpe hd
        by_cases hqd : q = d
        · subst hqd
          obtain rfl : s = q := by omega
          go_wp2_with (first
            | (go_at_call 32; (with_reducible refine (HEX.out _ HB.out).mono ?_); rintro r w2 ⟨rfl, hb2⟩; have HB2 := Lib.hid (HB.out.trans (hb2.mono HB.out.size)); have HV2 := Lib.hid (row_keep2 HV.out hb2); clear hb2)
            | (at_builtin; refine wpList_append_own _ rfl (.tmp 23) (.tmp 27) 55 rfl w.heap.size 25 i0 (.slice none 0 0) 1 24 Try.underlying55 hi0 hz0 hz1 hz2 rfl (by decide) (.slice Av k cv) k (prts bk off c (allC l) k) rfl (HV2.out.alloc _) ⟨w2.heap.size, 0, none⟩ 1 1 [.slice (some ⟨bk, o, none⟩) s s] rfl rfl (cell_one_any _ _ _) (by simp [Value.oneCell']) (by have := HK2.out; unfold maxLen; omega) (by have := HK2.out; omega) (by have := HB2.out.size; simp; omega) ?_; intro v4 w4 z1 z2 _; have HV4 : Hid (w4.ownsRow w.heap.size 25 1 v4 (k + 1) (prts bk off c (allC l) (k + 1))) := Lib.hid (by rw [HPS.out]; exact z1); have HB4 : Hid (Below w.heap.size w w4) := Lib.hid ((HB2.out.alloc HB2.out.size _).grown z2 (by have := HB2.out.size; simp; omega) (fun g hg => (HV2.out.lt g hg).1)); clear z1 z2))
          go_roundw
          case rel => exact ⟨k + 1, e, some ⟨bk, o, none⟩, _, rfl, (by rw [HN1.out, HN2.out] <;> simp), Lib.hid HST.out.2, Lib.hid (fun h1 => absurd (HN3.out h1) (by simp)), HV4, HB4⟩
          case measure => show 0 < s; omega
        · go_wp2_with (first
            | (go_at_call 32; (with_reducible refine (HEX.out _ HB.out).mono ?_); rintro r w2 ⟨rfl, hb2⟩; have HB2 := Lib.hid (HB.out.trans (hb2.mono HB.out.size)); have HV2 := Lib.hid (row_keep2 HV.out hb2); clear hb2)
            | (at_builtin; refine wpList_append_own _ rfl (.tmp 23) (.tmp 27) 55 rfl w.heap.size 25 i0 (.slice none 0 0) 1 24 Try.underlying55 hi0 hz0 hz1 hz2 rfl (by decide) (.slice Av k cv) k (prts bk off c (allC l) k) rfl (HV2.out.alloc _) ⟨w2.heap.size, 0, none⟩ 1 1 [.slice (some ⟨bk, o, none⟩) d q] rfl rfl (cell_one_any _ _ _) (by simp [Value.oneCell']) (by have := HK2.out; unfold maxLen; omega) (by have := HK2.out; omega) (by have := HB2.out.size; simp; omega) ?_; intro v4 w4 z1 z2 _; have HV4 : Hid (w4.ownsRow w.heap.size 25 1 v4 (k + 1) (prts bk off c (allC l) (k + 1))) := Lib.hid (by rw [HPS.out]; exact z1); have HB4 : Hid (Below w.heap.size w w4) := Lib.hid ((HB2.out.alloc HB2.out.size _).grown z2 (by have := HB2.out.size; simp; omega) (fun g hg => (HV2.out.lt g hg).1)); clear z1 z2))
          go_roundw
          case rel => exact ⟨k + 1, e, some ⟨bk, o + d, none⟩, _, rfl, (by rw [HN1.out, HN2.out]), Lib.hid HST.out.2, Lib.hid (fun h1 => by rw [HN4.out]), HV4, HB4⟩
          case measure => show s - d < s; omega
    · obtain rfl : p = n := by omega
      obtain rfl : s = 0 := by omega
      obtain ⟨hk1, hk3⟩ := HC.out.stop (by have := HLN.out; omega)
      have HK1 := Lib.hid hk1; have HK3 := Lib.hid hk3
      clear hk1 hk3 hs hq
      go_wp2_with fail
      go_ret2
      exact HGOOD.out _ _ _ _ _ HK1.out HK3.out rfl HV.out HB.out
set_option maxRecDepth 100000 in
set_option maxHeartbeats 16000000 in
theorem all_any {w : World} {A : Option Addr} {n c : Nat} {l : List Int} (h : Byt w A n c l) (hn : n ≤ 3000) :
    Calls Try.prog 21 #[.slice A n c] w (AllOut l w) := by
  obtain ⟨bk, off, hAe⟩ : ∃ bk off, 0 < n → A = some ⟨bk, off, none⟩ := by
    by_cases h0 : 0 < n
    · obtain ⟨bk, off, x0, hAe, -⟩ := h.at (k := 0) h0
      exact ⟨bk, off, fun _ => hAe⟩
    · exact ⟨0, 0, fun h1 => absurd h1 h0⟩
  have HSP := Lib.hid (split_any h hn bk off hAe)
  have HLN := Lib.hid h.len
  have HBAD : Hid (∀ e w', allK l = false → e = .returned (.tuple #[.slice none 0 0, .slice none 0 0, .int .i64 2]) → Below w.heap.size w w' → AllOut l w e w') := Lib.hid (fun e w' h1 h2 h3 => allOut_bad h1 h2 h3)
  have HGOOD : Hid (∀ e w' v u, allK l = true → e = .returned (.tuple #[v, u, .int .i64 0]) → Two w NoB (allD l) (allE l) (allC l).length v u NoB w' → AllOut l w e w') := Lib.hid (fun e w' v u h1 h3 h4 => allOut_good h1 rfl h3 h4)
  have HCL : Hid (allK l = true → (allC l).length ≤ 1500 ∧ ∀ (k : Nat) (a : Nat × Nat), (allC l)[k]? = some a → a.1 + 2 ≤ a.2 ∧ a.2 ≤ n) := Lib.hid (fun _ => by rw [← h.len]; exact cut_all (by rw [h.len]; exact hn))
  have HDC : Hid (allK l = true → ∀ k, k < (allC l).length → ∀ W, Below w.heap.size w W → Calls Try.prog 19 #[.slice (some ⟨bk, off + ((allC l).getD k (0, 0)).1, none⟩) (((allC l).getD k (0, 0)).2 - ((allC l).getD k (0, 0)).1) (c - ((allC l).getD k (0, 0)).1)] W fun e w' => e = .returned (.tuple #[.agg ((allD l).getD k rc0).cells, .int .i64 (allE l k)]) ∧ Below W.heap.size W w') := Lib.hid (fun hk k hkC W hb => by
    obtain ⟨a, ha⟩ : ∃ a, (allC l)[k]? = some a := ⟨_, List.getElem?_eq_getElem hkC⟩
    obtain ⟨p1, p2⟩ := (HCL.out hk).2 k a ha
    have hg : (allC l).getD k (0, 0) = a := by rw [List.getD_eq_getElem?_getD, ha]; rfl
    rw [hg]
    have hy := h.below hb
    rw [hAe (by omega)] at hy
    have h1 := decode_any (byt_take (byt_drop hy a.1 (by omega)) (a.2 - a.1) (by omega)) (by omega)
    unfold DecP at h1
    have h2 : (l.drop a.1).take (a.2 - a.1) = prt l a := rfl
    rw [h2, all_at ha] at h1
    exact h1)
  clear h hn hAe
  go_enter Try.func21, Try.ntmps21
  cases hk : allK l with
  | false =>
    have HK := Lib.hid hk
    clear hk
    go_wp2_with (go_at_call 35; (with_reducible refine HSP.out.mono ?_); rintro e w1 hso; rcases hso with ⟨-, rfl, hb⟩ | ⟨hk9, -⟩; rotate_left; (exact absurd hk9 (by rw [HK.out]; decide)); have HB1 := Lib.hid hb; clear hb)
    go_ret3
    exact HBAD.out _ _ HK.out rfl HB1.out
  | true =>
    have HK := Lib.hid hk
    clear hk
    go_wp2_with (first
      | (go_at_call 35; (with_reducible refine HSP.out.mono ?_); rintro e w1 hso; rcases hso with ⟨hk9, -⟩ | ⟨-, Ap, cx, rfl, hpr, hb⟩; (exact absurd hk9 (by rw [HK.out]; decide)); have HB1 := Lib.hid hb; have HC := Lib.hid (collect_dec (cx := cx) hpr (HCL.out HK.out).1 (D := allD l) (E := allE l) (fun j hj W hb => HDC.out HK.out j hj W (HB1.out.trans (hb.mono HB1.out.size)))); clear hb hpr)
      | (go_at_call 36; (with_reducible refine HC.out.mono ?_); rintro e w2 ⟨v2, u2, rfl, ht2⟩; have HT2 := Lib.hid (two_shift HB1.out ht2); clear ht2))
    go_ret3
    exact HGOOD.out _ _ _ _ HK.out rfl HT2.out
end Go.Proofs.Ytinnmnhaeejfdaa.Va
