/- Walk: All of the reference. -/
import Derived.Test.YtblhpbheejemnaaPkTw
import Derived.Test.YtblhpbheejemnaaPkQ
import Derived.OwnWalk
namespace Go.Proofs.Ytblhpbheejemnaa.Va
open Go.RowKit

/-- No block. -/
def NoB : Nat → Prop := fun _ => False
/-- The records of bytes that are cut by 45, and their errors. -/
def allE (l : List Int) (j : Nat) : Int := (decP (fd l (j * 45) 45)).2
def allD (l : List Int) : List Rc := (List.range (l.length / 45)).map fun j => (decP (fd l (j * 45) 45)).1
def allX (l : List Int) : Int := if l.length % 45 = 0 then 0 else 2
def allN (l : List Int) : Nat := if l.length % 45 = 0 then l.length / 45 else 0
def AllOut (l : List Int) (w : World) (e : Ending) (w' : World) : Prop :=
  ∃ v u, e = .returned (.tuple #[v, u, .int .i64 (allX l)]) ∧ Two w NoB (allD l) (allE l) (allN l) v u NoB w'
theorem allD_at {l : List Int} {k : Nat} (h : k < l.length / 45) : (allD l).getD k rc0 = (decP (fd l (k * 45) 45)).1 := by
  unfold allD
  rw [List.getD_eq_getElem?_getD, List.getElem?_map, List.getElem?_range h]; rfl
theorem two_nil (w : World) (D : List Rc) (E : Nat → Int) : Two w NoB D E 0 (.slice none 0 0) (.slice none 0 0) NoB w :=
  ⟨World.ownsRow_nil _ _ _ _, World.ownsRow_nil _ _ _ _, by simp [Value.ownBlock], by simp [Value.ownBlock], by simp [Value.ownBlock], fun b hb => hb.elim, fun b hb => hb.elim, Chg.refl _ _⟩
theorem two_below {w wr : World} {D : List Rc} {E : Nat → Int} {k : Nat} {v u : Value} (h : Two w NoB D E k v u NoB wr) : Below w.heap.size w wr :=
  ⟨h.ch.os, h.ch.tape, h.ch.output, h.ch.size, fun q hq => h.ch.block q hq id⟩
set_option maxRecDepth 100000 in
set_option maxHeartbeats 16000000 in
theorem refAll_any {w : World} {A : Option Addr} {n c : Nat} {l : List Int} (h : Byt w A n c l) (hn : n ≤ 3000) :
    Calls Try.prog 19 #[.slice A n c] w (AllOut l w) := by
  obtain ⟨i0, hi0, hz0, hz1, hz2⟩ := info_parts recInfo
  obtain ⟨k0, hk0, hy0, hy1, hy2⟩ := info_parts rejInfo
  have hlen := h.len
  have HA := Lib.hid h
  by_cases hm : n % 45 = 0
  · have dm : ((n : Int) % 45 == 0) = true := by simp; omega
    have dm2 : ((n : Int) % 45 != 0) = false := by simp; omega
    obtain ⟨N, hN⟩ : ∃ N, n / 45 = N := ⟨_, rfl⟩
    have hNi : (n : Int) / 45 = (N : Int) := by omega
    have hN4 : decide (4096 < (N : Int)) = false := decide_eq_false (by omega)
    have HXE : Hid (allX l = 0) := Lib.hid (by unfold allX; rw [if_pos (by omega)])
    have HNE : Hid (allN l = N) := Lib.hid (by unfold allN; rw [if_pos (by omega)]; omega)
    obtain ⟨D, hD⟩ : ∃ D, allD l = D := ⟨_, rfl⟩
    obtain ⟨E, hE⟩ : ∃ E, allE l = E := ⟨_, rfl⟩
    have HDK : Hid (∀ k, k < N → decP (fd l (k * 45) 45) = (D.getD k rc0, E k)) := Lib.hid (fun k hk => by
      rw [← hD, ← hE, allD_at (by omega)]; rfl)
    have HN := Lib.hid hN; have HLN := Lib.hid hlen
    have HOUT : Hid (∀ e w', (∃ v u, e = .returned (.tuple #[v, u, .int .i64 0]) ∧ Two w NoB D E N v u NoB w') → AllOut l w e w') := Lib.hid (fun e w' hh => by
      obtain ⟨v, u, h1, h2⟩ := hh
      exact ⟨v, u, by rw [HXE.out]; exact h1, by rw [HNE.out, hD, hE]; exact h2⟩)
    have HT0 := Lib.hid (two_nil w D E)
    clear h hlen hm hD hE
    go_enter Try.func19, Try.ntmps19
    go_wp2_with fail
    go_loopw [5, 6, 7] (fun v u iv wr => ∃ k : Nat, iv = .int .i64 k ∧ k ≤ N ∧ Hid (Two w NoB D E k v u NoB wr)) (fun _ _ iv _ => N - (intOf iv).toNat)
    case atStart => exact ⟨0, rfl, by omega, HT0⟩
    case round =>
      obtain ⟨k, rfl, hk, HT⟩ := hrel
      by_cases hlt : k < N
      · have hlt' : (k : Int) < (N : Int) := by omega
        have hkp : (pasN D E k).length ≤ k := pas_len
        have hkj : (rejN E k).length ≤ k := rej_len
        have hk66 : k ≤ 66 := by have := HN.out; omega
        obtain ⟨a, ha⟩ : ∃ a, k * 45 = a := ⟨_, rfl⟩
        obtain ⟨b, hb⟩ : ∃ b, a + 45 = b := ⟨_, rfl⟩
        have m1 : (k : Int) * 45 = (a : Int) := by omega
        have m2 : ((k : Int) + 1) * 45 = (b : Int) := by omega
        have habn : b ≤ n := by have := HN.out; omega
        have hba : b - a = 45 := by omega
        have HY := Lib.hid (HA.out.below (two_below HT.out))
        obtain ⟨bk, off, x0, hAe, -, -, -⟩ := HY.out.at (k := 0) (by omega)
        subst hAe
        have hcap := HY.out.cap
        have hmx := HY.out.max
        have hdk := HDK.out k hlt
        rw [ha] at hdk
        obtain ⟨r, hp⟩ : ∃ r, D.getD k rc0 = r := ⟨_, rfl⟩
        obtain ⟨s0, s1, s2, sa, sb, s5, s6, s7, s8, b9, s10, b11⟩ := r
        obtain ⟨x, hx⟩ : ∃ x, E k = x := ⟨_, rfl⟩
        have HP := Lib.hid hp; have HX := Lib.hid hx
        rw [hp, hx] at hdk
        have hst : Calls Try.prog 17 #[.slice (some ⟨bk, off + a, none⟩) (b - a) (c - a)] wr fun e w' => e = .returned (.tuple #[.agg (Rc.cells ⟨s0, s1, s2, sa, sb, s5, s6, s7, s8, b9, s10, b11⟩), .int .i64 x]) ∧ Below wr.heap.size wr w' := by
          have h1 := refDecode_any (byt_take (byt_drop HY.out a (by omega)) (b - a) (by omega)) (by omega)
          unfold DecOut at h1
          have h2 : (l.drop a).take (b - a) = fd l a 45 := by rw [hba]; rfl
          rw [h2, hdk] at h1
          exact h1
        simp only [Rc.cells] at hst
        have HST := Lib.hid hst
        have HKP := Lib.hid hkp; have HKJ := Lib.hid hkj
        have b1 : (a : Int) ≤ (b : Int) := by omega
        have b2 : (b : Int) ≤ (c : Int) := by omega
        have b3 : ¬ c = a := by omega
        have b4 : (0 : Int) ≤ (a : Int) := by omega
        clear hp hx hdk hst hkp hkj ha hb habn hba hcap hmx
        by_cases hx0 : x = 0
        · subst hx0
          go_wp2_with (first
            | (go_at_call 17; (with_reducible refine HST.out.mono ?_); rintro e w1 ⟨rfl, hb⟩; have HT1 := Lib.hid (HT.out.chg (chg_below hb) (F1 := NoB) (fun _ h => h.elim) (fun _ h => h.elim)); obtain ⟨c0, c1, c2, c3, c4, c5, c6, c7, c8, c9, c10, c11⟩ := (show RcB (w1.alloc (.cells #[.int .i64 s0, .int .i64 s1, .int .i64 s2, .string sa, .string sb, .int .i64 s5, .int .i64 s6, .int .i64 s7, .int .i64 s8, .bool b9, .int .i64 s10, .bool b11] 31)) w1.heap.size ⟨s0, s1, s2, sa, sb, s5, s6, s7, s8, b9, s10, b11⟩ from heap_alloc_new w1 _).cells; simp only at c0 c1 c2 c3 c4 c5 c6 c7 c8 c9 c10 c11; clear hb)
            | (at_builtin; refine wpList_append_own_at _ rfl (.tmp 38) (.tmp 40) 40 rfl w.heap.size 31 i0 _ 12 112 Try.underlying40 hi0 hz0 hz1 hz2 rfl (by decide) _ _ (recl (pasN D E k)) rfl ((HT1.out.alloc _).alloc _).ov ⟨w1.heap.size + 1, 0, none⟩ 1 1 (recl [D.getD k rc0]) rfl (by rw [recl_len]; rfl) (by rw [HP.out]; have h := Blk.srcR (r := ⟨s0, s1, s2, sa, sb, s5, s6, s7, s8, b9, s10, b11⟩) (Blk.new (w1.alloc (.cells #[.int .i64 s0, .int .i64 s1, .int .i64 s2, .string sa, .string sb, .int .i64 s5, .int .i64 s6, .int .i64 s7, .int .i64 s8, .bool b9, .int .i64 s10, .bool b11] 31)) 31 #[.int .i64 s0, .int .i64 s1, .int .i64 s2, .string sa, .string sb, .int .i64 s5, .int .i64 s6, .int .i64 s7, .int .i64 s8, .bool b9, .int .i64 s10, .bool b11]); rw [World.size_alloc] at h; exact h) (recl_one _) (by have := HKP.out; unfold maxLen; omega) (by have := HKP.out; omega) (((HT1.out.alloc _).alloc _).ch.size) ?_; intro v4 w4 g1 g2 _ g3; have HT4 := Lib.hid (((HT1.out.alloc _).alloc _).appV HX.out g1 g2 g3); clear g1 g2 g3))
          go_roundw
          case rel => exact ⟨k + 1, by go_num, by omega, HT4⟩
          case measure => simp [intOf]; omega
        · have hxq : (x == 0) = false := by simp [hx0]
          have HXN : Hid (E k ≠ 0) := Lib.hid (by rw [HX.out]; exact hx0)
          clear hx0
          go_wp2_with (first
            | (go_at_call 17; (with_reducible refine HST.out.mono ?_); rintro e w1 ⟨rfl, hb⟩; have HT1 := Lib.hid (HT.out.chg (chg_below hb) (F1 := NoB) (fun _ h => h.elim) (fun _ h => h.elim)); clear hb)
            | (at_builtin; refine wpList_append_own_at _ rfl (.tmp 42) (.tmp 46) 41 rfl w.heap.size 62 k0 _ 4 32 Try.underlying41 hk0 hy0 hy1 hy2 rfl (by decide) _ _ (jcl (rejN E k)) rfl ((HT1.out.alloc _).alloc _).ou ⟨w1.heap.size + 1, 0, none⟩ 1 1 (jcl [(0, 0, (k : Int), E k)]) rfl (by rw [jcl_len]; rfl) (by rw [HX.out]; have h := Blk.srcJ (r := (0, 0, (k : Int), x)) (Blk.new (w1.alloc (.cells #[.int .i64 s0, .int .i64 s1, .int .i64 s2, .string sa, .string sb, .int .i64 s5, .int .i64 s6, .int .i64 s7, .int .i64 s8, .bool b9, .int .i64 s10, .bool b11] 31)) 62 #[.int .i64 0, .int .i64 0, .int .i64 k, .int .i64 x]); rw [World.size_alloc] at h; exact h) (jcl_one _) (by have := HKJ.out; unfold maxLen; omega) (by have := HKJ.out; omega) (((HT1.out.alloc _).alloc _).ch.size) ?_; intro v4 w4 g1 g2 _ g3; have HT4 := Lib.hid (((HT1.out.alloc _).alloc _).appU HXN.out g1 g2 g3); clear g1 g2 g3))
          go_roundw
          case rel => exact ⟨k + 1, by go_num, by omega, HT4⟩
          case measure => simp [intOf]; omega
      · obtain rfl : k = N := by omega
        go_wp2_with fail
        go_ret3
        exact HOUT.out _ _ ⟨_, _, rfl, HT.out⟩
  · have dm : ((n : Int) % 45 == 0) = false := by simp; omega
    have dm2 : ((n : Int) % 45 != 0) = true := by simp; omega
    have HOUT : Hid (∀ e w', (∃ v u, e = .returned (.tuple #[v, u, .int .i64 2]) ∧ Two w NoB (allD l) (allE l) 0 v u NoB w') → AllOut l w e w') := Lib.hid (fun e w' hh => by
      obtain ⟨v, u, h1, h2⟩ := hh
      exact ⟨v, u, by unfold allX; rw [if_neg (by omega)]; exact h1, by unfold allN; rw [if_neg (by omega)]; exact h2⟩)
    have HT0 := Lib.hid (two_nil w (allD l) (allE l))
    clear h hlen hm
    go_enter Try.func19, Try.ntmps19
    go_wp2_with fail
    go_ret3
    exact HOUT.out _ _ ⟨_, _, rfl, HT0.out⟩
end Go.Proofs.Ytblhpbheejemnaa.Va
