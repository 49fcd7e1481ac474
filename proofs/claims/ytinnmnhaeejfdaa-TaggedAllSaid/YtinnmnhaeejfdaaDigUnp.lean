/- Walk: unpacking digits in the program. -/
import Derived.Test.YtinnmnhaeejfdaaRows
import Derived.Test.YtinnmnhaeejfdaaDigV
import Derived.Test.YtinnmnhaeejfdaaDigPack
import Derived.Test.YtinnmnhaeejfdaaDigUnpM
import Derived.Test.YtinnmnhaeejfdaaDigNormM
import Derived.Laws.IdiomStrings
import Derived.Lib.BufferRead
namespace Go.Proofs.Ytinnmnhaeejfdaa
open Go.RowKit

/-- The row text, owned, as a string. -/
theorem own_string {P : Program} {w : World} {base : Nat} {v : Value} {l : List UInt8} (src dst e : TypeId) (hs : P.underlying src = some (.slice e)) (he : P.underlying e = some (.int .u8)) (hd : P.underlying dst = some .string)
    (h : w.ownsRow base e 1 v l.length (U l)) (hne : l ≠ []) : (convert src dst v).run P w = .ok (.string (S l)) w := by
  rcases h.2 with ⟨_, h0⟩ | ⟨g, cap, cur, rfl, hb, hg, hnc, hcm, hcs, htake⟩
  · exact absurd (List.length_eq_zero_iff.1 h0) hne
  · refine run_convert_bytes_back w src dst e ⟨g, 0, none⟩ cap l hs he hd (fun j hj => ?_)
    have := World.ownsRow.cells h (g := g) rfl j (.int .u8 (l[j].toNat : Int)) (by simp [U, hj])
    exact this

/-- A new block of one byte, as a string. -/
theorem conv_one {P : Program} (w : World) (src dst e : TypeId) (hs : P.underlying src = some (.slice e)) (he : P.underlying e = some (.int .u8)) (hd : P.underlying dst = some .string) (x : Int) (h0 : 0 ≤ x) (h1 : x ≤ 255) :
    (convert src dst (.slice (some ⟨w.heap.size, 0, none⟩) 1 1)).run P (w.alloc (.cells #[.int .u8 x] e)) = .ok (.string (S [b8 x])) (w.alloc (.cells #[.int .u8 x] e)) := by
  have := run_convert_bytes_back (P := P) (w.alloc (.cells #[.int .u8 x] e)) src dst e ⟨w.heap.size, 0, none⟩ 1 [b8 x] hs he hd (fun j hj => by
    have hc := cell_one_new w (.int .u8 x) e j (.int .u8 x) (by
      have : j = 0 := by simpa using hj
      subst this; rfl)
    rw [hc]
    have : j = 0 := by simpa using hj
    subst this
    simp [b8_toNat h0 h1])
  exact this

set_option maxHeartbeats 2000000 in
theorem unpack_ok (A : Option Addr) (n c : Nat) (zs : List Int) (w : World) (hA : Bts w A n zs) (hn : n ≤ 8) (hn0 : 0 < n) :
    Calls Try.prog 51 #[.slice A n c] w fun e w' => e = .returned (.tuple #[.string (S (unpL zs)), .int .i64 (unpE zs)]) ∧ Below w.heap.size w w' := by
  obtain ⟨i0, hi0, hz0, hz1, hz2⟩ := info_parts byteInfo
  go_enter Try.func51, Try.ntmps51
  go_wp2
  go_loopw [4, 13] (fun v i wr => ∃ k : Nat, k ≤ n ∧ i = .int .i64 k ∧ wr.ownsRow w.heap.size 5 1 v (unpTo zs n k).length (U (unpTo zs n k)) ∧ Below w.heap.size w wr) (fun _ i _ => n - (intOf i).toNat)
  case atStart => exact ⟨0, by omega, rfl, World.ownsRow_nil _ _ _ _, Below.refl _ _⟩
  case round =>
    obtain ⟨k, hk, rfl, hown, hb⟩ := hrel
    have hsz := hb.size
    by_cases hlt : k < n
    · obtain ⟨b, off, rfl, hbl, hc⟩ := hA.2.2 k hlt
      have hz := hA.range k hlt
      have hc' := (hb.cell (p := ⟨b, off + k, none⟩) hbl).trans hc
      have HA := Lib.hid hA
      clear hA hc
      obtain ⟨z, hzz⟩ : ∃ z, zs[k]?.getD 0 = z := ⟨_, rfl⟩
      rw [hzz] at hz hc'
      have HZ := Lib.hid hzz; clear hzz
      have h15 := and15 z hz.1 hz.2
      have hlen := unpTo_length zs n k
      cases hlow : noLow z n k with
      | true =>
        have h1 : z % 16 = 15 := by simp [noLow] at hlow; omega
        have h2 : ¬ (k : Int) < (n : Int) - 1 := by simp [noLow] at hlow; omega
        have heq := unpTo_one (zs := zs) HZ.out hlow
        have HE := Lib.hid heq; clear heq hlow
        go_wp2_with (at_builtin; refine wpList_append_own _ rfl (.tmp 18) (.tmp 22) 25 rfl w.heap.size 5 i0 (.int .u8 0) 1 1 Try.underlying25 hi0 hz0 hz1 hz2 rfl (by decide) _ _ _ rfl (World.ownsRow.alloc hown _) ⟨wr.heap.size, 0, none⟩ 1 1 [.int .u8 (48 + z / 16)] rfl rfl (cell_one_new _ _ _) (by intro u hu; simp at hu; subst hu; rfl) (by unfold maxLen; omega) (by omega) (by simp; omega) ?_; intro v1 w1 hown1 hg1 _; have hb1 : Below w.heap.size w w1 := ((hb.alloc hsz _).grown hg1 (by simp; omega) (fun g hg' => (World.ownsRow.lt hown g hg').1)); have hsz1 := hb1.size)
        go_roundw
        case rel =>
          refine ⟨k + 1, by omega, by go_num, ?_, hb1⟩
          rw [HE.out, U_append, U_one (by omega) (by omega)]
          simpa using hown1
        case measure => simp [intOf]; omega
      | false =>
        by_cases h1 : z % 16 = 15
        · have h2 : (k : Int) < (n : Int) - 1 := by simp [noLow, h1] at hlow; omega
          have h1' : (z % 16 != 15) = false := by simpa using h1
          clear h1
          have heq := unpTo_two (zs := zs) HZ.out hlow
          have HE := Lib.hid heq; clear heq
          go_wp2_with (first
            | (at_builtin; refine wpList_append_own _ rfl (.tmp 18) (.tmp 22) 25 rfl w.heap.size 5 i0 (.int .u8 0) 1 1 Try.underlying25 hi0 hz0 hz1 hz2 rfl (by decide) _ _ _ rfl (World.ownsRow.alloc hown _) ⟨wr.heap.size, 0, none⟩ 1 1 [.int .u8 (48 + z / 16)] rfl rfl (cell_one_new _ _ _) (by intro u hu; simp at hu; subst hu; rfl) (by unfold maxLen; omega) (by omega) (by simp; omega) ?_; intro v1 w1 hown1 hg1 _; have hb1 : Below w.heap.size w w1 := ((hb.alloc hsz _).grown hg1 (by simp; omega) (fun g hg' => (World.ownsRow.lt hown g hg').1)); have hsz1 := hb1.size)
            | (at_builtin; refine wpList_append_own _ rfl (.tmp 35) (.tmp 38) 25 rfl w.heap.size 5 i0 (.int .u8 0) 1 1 Try.underlying25 hi0 hz0 hz1 hz2 rfl (by decide) _ _ _ rfl (World.ownsRow.alloc hown1 _) ⟨w1.heap.size, 0, none⟩ 1 1 [.int .u8 (48 + z % 16)] rfl rfl (cell_one_new _ _ _) (by intro u hu; simp at hu; subst hu; rfl) (by unfold maxLen; omega) (by omega) (by simp; omega) ?_; intro v2 w2 hown2 hg2 _; have hb2 : Below w.heap.size w w2 := ((hb1.alloc hsz1 _).grown hg2 (by simp; omega) (fun g hg' => (World.ownsRow.lt hown1 g hg').1))))
          go_roundw
          case rel =>
            refine ⟨k + 1, by omega, by go_num, ?_, hb2⟩
            rw [HE.out, U_append, U_append, U_one (by omega) (by omega), U_one (by omega) (by omega)]
            simpa using hown2
          case measure => simp [intOf]; omega
        · have h1' : (z % 16 != 15) = true := by simpa using h1
          clear h1
          have heq := unpTo_two (zs := zs) HZ.out hlow
          have HE := Lib.hid heq; clear heq
          go_wp2_with (first
            | (at_builtin; refine wpList_append_own _ rfl (.tmp 18) (.tmp 22) 25 rfl w.heap.size 5 i0 (.int .u8 0) 1 1 Try.underlying25 hi0 hz0 hz1 hz2 rfl (by decide) _ _ _ rfl (World.ownsRow.alloc hown _) ⟨wr.heap.size, 0, none⟩ 1 1 [.int .u8 (48 + z / 16)] rfl rfl (cell_one_new _ _ _) (by intro u hu; simp at hu; subst hu; rfl) (by unfold maxLen; omega) (by omega) (by simp; omega) ?_; intro v1 w1 hown1 hg1 _; have hb1 : Below w.heap.size w w1 := ((hb.alloc hsz _).grown hg1 (by simp; omega) (fun g hg' => (World.ownsRow.lt hown g hg').1)); have hsz1 := hb1.size)
            | (at_builtin; refine wpList_append_own _ rfl (.tmp 35) (.tmp 38) 25 rfl w.heap.size 5 i0 (.int .u8 0) 1 1 Try.underlying25 hi0 hz0 hz1 hz2 rfl (by decide) _ _ _ rfl (World.ownsRow.alloc hown1 _) ⟨w1.heap.size, 0, none⟩ 1 1 [.int .u8 (48 + z % 16)] rfl rfl (cell_one_new _ _ _) (by intro u hu; simp at hu; subst hu; rfl) (by unfold maxLen; omega) (by omega) (by simp; omega) ?_; intro v2 w2 hown2 hg2 _; have hb2 : Below w.heap.size w w2 := ((hb1.alloc hsz1 _).grown hg2 (by simp; omega) (fun g hg' => (World.ownsRow.lt hown1 g hg').1))))
          go_roundw
          case rel =>
            refine ⟨k + 1, by omega, by go_num, ?_, hb2⟩
            rw [HE.out, U_append, U_append, U_one (by omega) (by omega), U_one (by omega) (by omega)]
            simpa using hown2
          case measure => simp [intOf]; omega
    · obtain rfl : k = n := by omega
      have hlow := unpTo_low zs k k (Nat.le_refl _)
      have hlen := unpTo_length zs k k
      have hne : unpTo zs k k ≠ [] := by intro h; rw [h] at hlow; simp at hlow; omega
      have hconv : (convert 25 9 u4).run Try.prog wr = .ok (.string (S (unpTo zs k k))) wr := own_string _ _ _ Try.underlying25 Try.underlying5 Try.underlying9 hown hne
      have hS := S_toList
      have hzl : zs.length = k := hA.1
      cases hv : numB (unpTo zs k k) with
      | true =>
        have HF := Lib.hid (unp_good (zs := zs) (by omega) (by rw [hzl]; exact hv))
        have HZL := Lib.hid hzl; clear hzl hne hlow
        go_wp2_with (go_at_call 38; refine (valid_any _ _ ?hq).mono ?_; (case hq => (rw [S_size]; unfold maxLen; omega)); rintro e w1 ⟨rfl, rfl⟩)
        go_ret2
        exact ⟨ret_pair (by rw [HF.out.1, HZL.out]) HF.out.2.symm, hb⟩
      | false =>
        have HF := Lib.hid (unp_bad (zs := zs) (by rw [hzl]; exact hv))
        have HZL := Lib.hid hzl; clear hzl hne hlow
        go_wp2_with (go_at_call 38; refine (valid_any _ _ ?hq).mono ?_; (case hq => (rw [S_size]; unfold maxLen; omega)); rintro e w1 ⟨rfl, rfl⟩)
        go_ret2
        exact ⟨ret_pair (by rw [HF.out.1]; rfl) HF.out.2.symm, hb⟩

/-- Too many bytes, or none. -/
theorem unpack_no (A : Option Addr) (n c : Nat) (zs : List Int) (w : World) (hA : Bts w A n zs) (hm : n ≤ maxLen) (hn : n = 0 ∨ 8 < n) :
    Calls Try.prog 51 #[.slice A n c] w fun e w' => e = .returned (.tuple #[.string (S (unpL zs)), .int .i64 (unpE zs)]) ∧ Below w.heap.size w w' := by
  unfold maxLen at hm
  rcases hn with rfl | hn
  · have hz : zs = [] := List.length_eq_zero_iff.1 hA.1
    have HF := Lib.hid (unp_bad (zs := zs) (by rw [hz]; rfl))
    have hconv := Lib.run_convert_nil_bytes (P := Try.prog) w _ _ _ 0 Try.underlying25 Try.underlying5 Try.underlying9
    have hno : numB [] = false := rfl
    go_enter Try.func51, Try.ntmps51
    go_wp2
    refine wp_loop_rounds 1 ?_
    rw [rounds_succ]
    go_wp2_with (go_at_call 38; refine (valid_any _ _ (by decide)).mono ?_; rintro e w1 ⟨rfl, rfl⟩)
    go_ret2
    exact ⟨ret_pair (by rw [HF.out.1]; rfl) HF.out.2.symm, Below.refl _ _⟩
  · have HF := Lib.hid (unp_long (zs := zs) (by rw [hA.1]; exact hn))
    go_enter Try.func51, Try.ntmps51
    go_wp2
    go_ret2
    exact ⟨ret_pair (by rw [HF.out.1]; rfl) HF.out.2.symm, Below.refl _ _⟩
theorem unpack_any (A : Option Addr) (n c : Nat) (zs : List Int) (w : World) (hA : Bts w A n zs) (hm : n ≤ maxLen) :
    Calls Try.prog 51 #[.slice A n c] w fun e w' => e = .returned (.tuple #[.string (S (unpL zs)), .int .i64 (unpE zs)]) ∧ Below w.heap.size w w' := by
  by_cases h : n = 0 ∨ 8 < n
  · exact unpack_no A n c zs w hA hm h
  · exact unpack_ok A n c zs w hA (by omega) (by omega)
end Go.Proofs.Ytinnmnhaeejfdaa
