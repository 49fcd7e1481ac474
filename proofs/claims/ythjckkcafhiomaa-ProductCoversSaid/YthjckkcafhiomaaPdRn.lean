/- Walk of the reference: Names. -/
import Derived.Test.YthjckkcafhiomaaPdSm
import Derived.Test.YthjckkcafhiomaaPdNa
namespace Go.Proofs.Ythjckkcafhiomaa.Pd
open Go.RowKit

/-- The names of the first k, each once. -/
def nR (l : List Pr) (t : Int) : Nat → List ByteArray
  | 0 => []
  | k + 1 => if (qN t (l.getD k pr0) && !hasT (nR l t k) (l.getD k pr0).nm) = true then nR l t k ++ [(l.getD k pr0).nm] else nR l t k
theorem nR_len (l : List Pr) (t : Int) (k : Nat) : (nR l t k).length ≤ k := by
  induction k with
  | zero => exact Nat.le_refl _
  | succ k ih =>
    unfold nR
    split
    · simp; omega
    · omega
theorem nR_yes {l : List Pr} {t : Int} {k : Nat} (h : qN t (l.getD k pr0) = true) (h2 : hasT (nR l t k) (l.getD k pr0).nm = false) : nR l t (k + 1) = nR l t k ++ [(l.getD k pr0).nm] := by
  rw [nR, if_pos (by rw [h, h2]; rfl)]
theorem nR_has {l : List Pr} {t : Int} {k : Nat} (h2 : hasT (nR l t k) (l.getD k pr0).nm = true) : nR l t (k + 1) = nR l t k := by
  rw [nR, if_neg (by rw [h2]; simp)]
theorem nR_no {l : List Pr} {t : Int} {k : Nat} (h : qN t (l.getD k pr0) = false) : nR l t (k + 1) = nR l t k := by
  rw [nR, if_neg (by rw [h]; simp)]
def namesR (l : List Pr) (t : Int) : List ByteArray := nR l t l.length
set_option maxRecDepth 100000 in
set_option maxHeartbeats 8000000 in
theorem refNames_any (A : Option Addr) (n c : Nat) (l : List Pr) (t : Int) (w : World) (hA : PrR w A l) (hn : l.length = n) (h6 : n ≤ 1000000) :
    Calls Try.prog 18 #[.slice A n c, .int .i64 t] w (TxsOut (namesR l t) w) := by
  obtain ⟨i0, hi0, hz0, hz1, hz2⟩ := info_parts strInfo
  have HA := Lib.hid hA; have HN := Lib.hid hn
  clear hA hn
  go_enter Try.func18, Try.ntmps18
  go_wp2_with fail
  go_loopw [5, 6] (fun v iv wr => ∃ (k : Nat) (u : Value), u = v ∧ iv = .int .i64 k ∧ k ≤ n ∧ Hid (Below w.heap.size w wr) ∧ Hid (wr.ownsRow w.heap.size 9 1 u (nR l t k).length ((nR l t k).map Value.string)) ∧ Hid (∀ s ∈ nR l t k, s.size ≤ maxLen)) (fun _ iv _ => n - (intOf iv).toNat)
  case atStart => exact ⟨0, _, rfl, rfl, by omega, Lib.hid (Below.refl _ _), Lib.hid (World.ownsRow_nil _ _ _ _), Lib.hid fun s hs => by cases hs⟩
  case round =>
    obtain ⟨k, v, rfl, rfl, hk, HB, HO, HS⟩ := hrel
    obtain ⟨A9, c9, rfl, -, -, hz, -⟩ := txt_own HO.out rfl HS.out
    have HZ := Lib.hid hz
    obtain ⟨M, hM⟩ : ∃ M, (nR l t k).length = M := ⟨_, rfl⟩
    have HM := Lib.hid hM
    have hMl : M ≤ 1000000 := by have := nR_len l t k; omega
    rw [hM] at HO ⊢
    clear hz hM
    by_cases hlt : k < n
    · have hkl : k < l.length := by rw [HN.out]; exact hlt
      have hlt' : (k : Int) < (n : Int) := by omega
      obtain ⟨bk, off, rfl, hbl, hcs, hok⟩ := HA.out k hkl
      have hcs := hcs.below HB.out hbl
      have HY := Lib.hid (nR_yes (l := l) (t := t) (k := k)); have HX := Lib.hid (nR_no (l := l) (t := t) (k := k)); have HH := Lib.hid (nR_has (l := l) (t := t) (k := k))
      have HNM := Lib.hid hok.nm
      obtain ⟨p, hp⟩ : ∃ p, l.getD k pr0 = p := ⟨_, rfl⟩
      rw [hp] at hcs HY HX HH HNM
      obtain ⟨pn, fr, fe, ca, pr, pA, pN, pC, bs⟩ := p
      unfold Pr.cells at hcs
      simp only [qN] at hcs HY HX HH HNM
      obtain ⟨e0, e1, e2, e3, e4, e5⟩ := hcs.all
      obtain ⟨u, hu⟩ : ∃ u, decide (fr ≤ t) = u := ⟨_, rfl⟩
      rw [hu] at HY HX
      clear hcs hkl hp hbl hok
      cases u
      · have HN2 := Lib.hid (HX.out rfl)
        go_wp2_with fail
        go_roundw
        case rel => exact ⟨k + 1, _, rfl, by go_num, by omega, HB, Lib.hid (by rw [HN2.out, HM.out]; exact HO.out), Lib.hid (by rw [HN2.out]; exact HS.out)⟩
        case measure => simp [intOf]; omega
      · obtain ⟨hv, hhv⟩ : ∃ hv, hasT (nR l t k) pn = hv := ⟨_, rfl⟩
        have HHS := Lib.hid (has_is A9 M c9 (nR l t k) pn hv hhv wr HZ.out HM.out (by unfold maxLen; omega))
        rw [hhv] at HY HH
        clear hhv
        cases hv
        · have HN2 := Lib.hid (HY.out rfl rfl)
          go_wp2_with (first
            | (go_at_call 22; (with_reducible refine HHS.out.mono ?_); rintro e w2 ⟨rfl, rfl⟩)
            | (at_builtin; refine wpList_append_own_at _ rfl (.tmp 30) (.tmp 36) 34 rfl w.heap.size 9 i0 _ 1 16 Try.underlying34 hi0 hz0 hz1 hz2 rfl (by decide) _ _ ((nR l t k).map Value.string) rfl (HO.out.alloc _) ⟨wr.heap.size, 0, none⟩ 1 1 [.string pn] rfl rfl (txt_src (Blk.new wr 9 _)) (by simp [Value.oneCell']) (by unfold maxLen; omega) (by omega) (by have := HB.out.size; simp; omega) ?_; intro v4 w4 g1 g2 _ g3; have HO4 := Lib.hid g1; have HB4 := Lib.hid (below_grown (HB.out.alloc HB.out.size _) g2 (fun j hj => (World.ownsRow.lt HO.out j hj).1) (by have := HB.out.size; simp; omega)); clear g1 g2 g3))
          go_roundw
          case rel => exact ⟨k + 1, _, rfl, by go_num, by omega, HB4, Lib.hid (by rw [HN2.out, List.map_append, List.length_append, HM.out]; exact HO4.out), Lib.hid (by rw [HN2.out]; intro s hs; rcases List.mem_append.1 hs with h | h; exact HS.out s h; (obtain rfl : s = pn := by simpa using h); exact HNM.out)⟩
          case measure => simp [intOf]; omega
        · have HN2 := Lib.hid (HH.out rfl)
          go_wp2_with (go_at_call 22; (with_reducible refine HHS.out.mono ?_); rintro e w2 ⟨rfl, rfl⟩)
          go_roundw
          case rel => exact ⟨k + 1, _, rfl, by go_num, by omega, HB, Lib.hid (by rw [HN2.out, HM.out]; exact HO.out), Lib.hid (by rw [HN2.out]; exact HS.out)⟩
          case measure => simp [intOf]; omega
    · obtain rfl : k = n := by omega
      have hl : (namesR l t).length = M := by unfold namesR; rw [HN.out]; exact HM.out
      obtain ⟨A8, c8, h8, g1, g2, g3, -⟩ := txt_own HO.out HM.out HS.out
      obtain ⟨rfl, rfl⟩ : A9 = A8 ∧ c9 = c8 := by injection h8 with a b c; exact ⟨a, c⟩
      have HR := Lib.hid (show (namesR l t).length = M ∧ M ≤ c9 ∧ c9 ≤ maxLen ∧ ZsR wr A9 (namesR l t) from ⟨hl, g1, g2, by unfold namesR; rw [HN.out]; exact g3⟩)
      clear hl h8 g1 g2 g3
      go_wp2_with fail
      go_ret
      exact ⟨A9, c9, by rw [HR.out.1]; rfl, by rw [HR.out.1]; exact HR.out.2.1, HR.out.2.2.1, HR.out.2.2.2, HB.out⟩
end Go.Proofs.Ythjckkcafhiomaa.Pd
