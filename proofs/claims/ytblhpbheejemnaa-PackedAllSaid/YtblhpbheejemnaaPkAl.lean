/- Walk: All of the program. -/
import Derived.Test.YtblhpbheejemnaaPkCo
namespace Go.Proofs.Ytblhpbheejemnaa.Va
open Go.RowKit

theorem sliceInfo : (Try.prog.info? 22).map (fun i => (i.zero, i.size, i.bytes)) = some (some (.slice none 0 0), 1, 24) := by kernel_rfl
theorem byt_cap {w : World} {A : Option Addr} {n c c' : Nat} {l : List Int} (h : Byt w A n c l) (h1 : n ≤ c') (h2 : c' ≤ c) : Byt w A n c' l := by
  obtain ⟨a, b, d⟩ := h.has
  refine ⟨⟨a, b, ?_⟩, h1, Nat.le_trans h2 h.max, h.ran⟩
  rcases d with ⟨e1, e2, e3⟩ | d
  · exact .inl ⟨e1, e2, by omega⟩
  · exact .inr d
theorem cell_one_any (w : World) (x : Value) (e : TypeId) : ∀ j u, [x][j]? = some u → (w.alloc (.cells #[x] e)).cell? ((⟨w.heap.size, 0, none⟩ : Addr).add j) = some u := by
  intro j u hu
  have ha : ((⟨w.heap.size, 0, none⟩ : Addr).add j) = ⟨w.heap.size, j, none⟩ := by unfold Addr.add; split <;> simp_all
  rw [ha, cell_of_row _ _ _ _ _ (0, 0) (heap_alloc_new _ _)]
  simpa using hu
/-- The first k parts. -/
def prts (bk off k : Nat) : List Value := (List.range k).map fun j => .slice (some ⟨bk, off + j * 45, none⟩) 45 45
theorem prts_succ (bk off k : Nat) : prts bk off (k + 1) = prts bk off k ++ [.slice (some ⟨bk, off + k * 45, none⟩) 45 45] := by unfold prts; rw [List.range_succ, List.map_append]; rfl
theorem prts_len (bk off k : Nat) : (prts bk off k).length = k := by simp [prts]
theorem parts_own {w : World} {base N bk off : Nat} {v : Value} (h : w.ownsRow base 22 1 v N (prts bk off N)) : ∃ Ap cp, v = .slice Ap N cp ∧ PartsR w Ap bk off N := by
  by_cases h0 : 0 < N
  · obtain ⟨g, cp, rfl, -, hg⟩ := h.form h0
    refine ⟨_, _, rfl, fun k hk => ⟨g, rfl, hg, ?_⟩⟩
    rw [h.cellAt k (by omega)]
    simp [prts, hk]
  · obtain rfl : N = 0 := by omega
    rcases h.2 with ⟨rfl, -⟩ | ⟨g, cap, cur, rfl, -⟩
    · exact ⟨_, _, rfl, fun k hk => by omega⟩
    · exact ⟨_, _, rfl, fun k hk => by omega⟩
theorem two_shift {w wr w' : World} {D : List Rc} {E : Nat → Int} {N : Nat} {v u : Value} (hb : Below w.heap.size w wr) (h : Two wr NoB D E N v u NoB w') : Two w NoB D E N v u NoB w' where
  ov := own_mono h.ov hb.size
  ou := own_mono h.ou hb.size
  vu := h.vu
  vF := fun _ _ hf => hf
  uF := fun _ _ hf => hf
  old := fun _ hf => hf.elim
  lt := fun _ hf => hf.elim
  ch := chg_below (hb.trans ((two_below h).mono hb.size))
set_option maxRecDepth 100000 in
set_option maxHeartbeats 16000000 in
theorem all_any {w : World} {A : Option Addr} {n c : Nat} {l : List Int} (h : Byt w A n c l) (hn : n ≤ 3000) :
    Calls Try.prog 18 #[.slice A n c] w (AllOut l w) := by
  obtain ⟨i0, hi0, hz0, hz1, hz2⟩ := info_parts sliceInfo
  have hlen := h.len
  have HA := Lib.hid h
  by_cases hm : n % 45 = 0
  · have dm : ((n : Int) % 45 == 0) = true := by simp; omega
    have dm2 : ((n : Int) % 45 != 0) = false := by simp; omega
    obtain ⟨N, hN⟩ : ∃ N, n / 45 = N := ⟨_, rfl⟩
    have hNi : (n : Int) / 45 = (N : Int) := by omega
    have hN4 : decide (4096 < (N : Int)) = false := decide_eq_false (by omega)
    have hN66 : N ≤ 66 := by omega
    have HXE : Hid (allX l = 0) := Lib.hid (by unfold allX; rw [if_pos (by omega)])
    have HNE : Hid (allN l = N) := Lib.hid (by unfold allN; rw [if_pos (by omega)]; omega)
    have HNN : Hid (n = N * 45) := Lib.hid (by omega)
    obtain ⟨D, hD⟩ : ∃ D, allD l = D := ⟨_, rfl⟩
    obtain ⟨E, hE⟩ : ∃ E, allE l = E := ⟨_, rfl⟩
    have HDK : Hid (∀ k, k < N → decP (fd l (k * 45) 45) = (D.getD k rc0, E k)) := Lib.hid (fun k hk => by
      rw [← hD, ← hE, allD_at (by omega)]; rfl)
    have HOUT : Hid (∀ e w', (∃ v u, e = .returned (.tuple #[v, u, .int .i64 0]) ∧ Two w NoB D E N v u NoB w') → AllOut l w e w') := Lib.hid (fun e w' hh => by
      obtain ⟨v, u, h1, h2⟩ := hh
      exact ⟨v, u, by rw [HXE.out]; exact h1, by rw [HNE.out, hD, hE]; exact h2⟩)
    obtain ⟨bk, off, hAe⟩ : ∃ bk off, 0 < N → A = some ⟨bk, off, none⟩ := by
      by_cases h0 : 0 < N
      · obtain ⟨bk, off, x0, hAe, -⟩ := h.at (k := 0) (by omega)
        exact ⟨bk, off, fun _ => hAe⟩
      · exact ⟨0, 0, fun h1 => absurd h1 h0⟩
    have HAE := Lib.hid hAe
    have HDC : Hid (∀ k, k < N → ∀ W, Below w.heap.size w W → Calls Try.prog 16 #[.slice (some ⟨bk, off + k * 45, none⟩) 45 45] W fun e w' => e = .returned (.tuple #[.agg (D.getD k rc0).cells, .int .i64 (E k)]) ∧ Below W.heap.size W w') := Lib.hid (fun k hk W hb => by
      have hy := HA.out.below hb
      rw [HAE.out (by omega)] at hy
      have h1 := decode_any (byt_cap (c' := 45) (byt_take (byt_drop hy (k * 45) (by have := HNN.out; omega)) 45 (by have := HNN.out; omega)) (Nat.le_refl _) (by have := hy.cap; have := HNN.out; omega)) (by omega)
      unfold DecOut at h1
      have h2 : (l.drop (k * 45)).take 45 = fd l (k * 45) 45 := rfl
      rw [h2, HDK.out k hk] at h1
      exact h1)
    have HV0 : Hid (w.ownsRow w.heap.size 22 1 (.slice none 0 0) 0 (prts bk off 0)) := Lib.hid (World.ownsRow_nil _ _ _ _)
    have hcap := h.cap
    clear h hlen hm hD hE hN hAe
    go_enter Try.func18, Try.ntmps18
    go_wp2_with fail
    go_loopw [5, 6] (fun v rv wr => ∃ (k : Nat) (R : Option Addr) (v' : Value), v' = v ∧ rv = .slice R (n - k * 45) (c - k * 45) ∧ k ≤ N ∧ Hid (k < N → R = some ⟨bk, off + k * 45, none⟩) ∧ Hid (wr.ownsRow w.heap.size 22 1 v' k (prts bk off k)) ∧ Hid (Below w.heap.size w wr)) (fun _ rv _ => (match rv with | .slice _ m _ => m | _ => 0))
    case atStart => exact ⟨0, A, _, rfl, by simp, by omega, Lib.hid (fun h0 => by rw [HAE.out h0]; simp), HV0, Lib.hid (Below.refl _ _)⟩
    case round =>
      obtain ⟨k, R, v, rfl, rfl, hk, HR, HV, HB⟩ := hrel
      obtain ⟨p, hp⟩ : ∃ p, n - k * 45 = p := ⟨_, rfl⟩
      obtain ⟨q, hq⟩ : ∃ q, c - k * 45 = q := ⟨_, rfl⟩
      rw [hp, hq]
      have hpq : p ≤ q := by omega
      by_cases hlt : k < N
      · have hp0 : (0 : Int) < (p : Int) := by have := HNN.out; omega
        have hp0n : 0 < p := by have := HNN.out; omega
        have hp45 : 45 ≤ p := by have := HNN.out; omega
        have hp45i : (45 : Int) ≤ (p : Int) := by omega
        have hq45i : (45 : Int) ≤ (q : Int) := by omega
        obtain rfl := HR.out hlt
        obtain ⟨o, ho⟩ : ∃ o, off + k * 45 = o := ⟨_, rfl⟩
        rw [ho]
        have HO := Lib.hid ho
        have HPP : Hid (n - (k + 1) * 45 = p - 45) := Lib.hid (by omega)
        have HQQ : Hid (c - (k + 1) * 45 = q - 45) := Lib.hid (by omega)
        clear ho hp hq
        by_cases hq45 : q = 45
        · subst hq45
          obtain rfl : p = 45 := by omega
          go_wp2_with (at_builtin; refine wpList_append_own _ rfl (.tmp 23) (.tmp 26) 58 rfl w.heap.size 22 i0 (.slice none 0 0) 1 24 Try.underlying58 hi0 hz0 hz1 hz2 rfl (by decide) v k (prts bk off k) rfl (HV.out.alloc _) ⟨wr.heap.size, 0, none⟩ 1 1 [.slice (some ⟨bk, o, none⟩) 45 45] rfl rfl (cell_one_any _ _ _) (by simp [Value.oneCell']) (by unfold maxLen; omega) (by omega) (by have := HB.out.size; simp; omega) ?_; intro v4 w4 z1 z2 _; have HV4 : Hid (w4.ownsRow w.heap.size 22 1 v4 (k + 1) (prts bk off (k + 1))) := Lib.hid (by rw [prts_succ, HO.out]; exact z1); have HB4 : Hid (Below w.heap.size w w4) := Lib.hid ((HB.out.alloc HB.out.size _).grown z2 (by have := HB.out.size; simp; omega) (fun g hg => (HV.out.lt g hg).1)); clear z1 z2)
          go_roundw
          case rel => exact ⟨k + 1, some ⟨bk, o, none⟩, _, rfl, (by rw [HPP.out, HQQ.out] <;> rfl), by omega, Lib.hid (fun hk1 => by have := HNN.out; have := HPP.out; omega), HV4, HB4⟩
          case measure => show 0 < 45; omega
        · have hq45n : ¬ q = 45 := hq45
          go_wp2_with (at_builtin; refine wpList_append_own _ rfl (.tmp 23) (.tmp 26) 58 rfl w.heap.size 22 i0 (.slice none 0 0) 1 24 Try.underlying58 hi0 hz0 hz1 hz2 rfl (by decide) v k (prts bk off k) rfl (HV.out.alloc _) ⟨wr.heap.size, 0, none⟩ 1 1 [.slice (some ⟨bk, o, none⟩) 45 45] rfl rfl (cell_one_any _ _ _) (by simp [Value.oneCell']) (by unfold maxLen; omega) (by omega) (by have := HB.out.size; simp; omega) ?_; intro v4 w4 z1 z2 _; have HV4 : Hid (w4.ownsRow w.heap.size 22 1 v4 (k + 1) (prts bk off (k + 1))) := Lib.hid (by rw [prts_succ, HO.out]; exact z1); have HB4 : Hid (Below w.heap.size w w4) := Lib.hid ((HB.out.alloc HB.out.size _).grown z2 (by have := HB.out.size; simp; omega) (fun g hg => (HV.out.lt g hg).1)); clear z1 z2)
          go_roundw
          case rel => exact ⟨k + 1, some ⟨bk, o + 45, none⟩, _, rfl, (by rw [HPP.out, HQQ.out]), by omega, Lib.hid (fun hk1 => by have h9 : o + 45 = off + (k + 1) * 45 := (by have := HO.out; omega); rw [h9]), HV4, HB4⟩
          case measure => show p - 45 < p; omega
      · obtain rfl : k = N := by omega
        obtain rfl : p = 0 := by have := HNN.out; omega
        obtain ⟨Ap, cp, rfl, hpr⟩ := parts_own HV.out
        have HC := Lib.hid (collect_dec (cp := cp) hpr hN66 (D := D) (E := E) (fun j hj W hb => HDC.out j hj W (HB.out.trans (hb.mono HB.out.size))))
        clear hpr hp hq
        go_wp2_with (go_at_call 32; (with_reducible refine HC.out.mono ?_); rintro e w2 ⟨v2, u2, rfl, ht2⟩; have HT2 := Lib.hid (two_shift HB.out ht2); clear ht2)
        go_ret3
        exact HOUT.out _ _ ⟨_, _, rfl, HT2.out⟩
  · have dm : ((n : Int) % 45 == 0) = false := by simp; omega
    have dm2 : ((n : Int) % 45 != 0) = true := by simp; omega
    have HOUT : Hid (∀ e w', (∃ v u, e = .returned (.tuple #[v, u, .int .i64 2]) ∧ Two w NoB (allD l) (allE l) 0 v u NoB w') → AllOut l w e w') := Lib.hid (fun e w' hh => by
      obtain ⟨v, u, h1, h2⟩ := hh
      exact ⟨v, u, by unfold allX; rw [if_neg (by omega)]; exact h1, by unfold allN; rw [if_neg (by omega)]; exact h2⟩)
    have HT0 := Lib.hid (two_nil w (allD l) (allE l))
    clear h hlen hm
    go_enter Try.func18, Try.ntmps18
    go_wp2_with fail
    go_ret3
    exact HOUT.out _ _ ⟨_, _, rfl, HT0.out⟩
end Go.Proofs.Ytblhpbheejemnaa.Va
