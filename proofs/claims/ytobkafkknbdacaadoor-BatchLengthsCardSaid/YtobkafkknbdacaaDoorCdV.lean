/- Walks: the bytes of a number are appended, in the program and in the reference. -/
import Derived.Test.YtobkafkknbdacaaDoorRows
import Derived.Test.YtobkafkknbdacaaDoorCdM
import Derived.Test.YtobkafkknbdacaaDoorCdB
import Derived.Test.YtobkafkknbdacaaDoorCdK
import Derived.Deep.QuietTactic
import Derived.BigQuiet
import Derived.Lib.Hide
import Derived.Maps.AppendAt
namespace Go.Proofs.YtobkafkknbdacaaDoor
open Go.RowKit

theorem byteInfo : (Tryd.prog.info? 5).map (fun i => (i.zero, i.size, i.bytes)) = some (some (.int .u8 0), 1, 1) := by kernel_rfl
/-- The cells of bytes. -/
def C8 (l : List Int) : List Value := l.map (Value.int .u8)
theorem C8_len (l : List Int) : (C8 l).length = l.length := by simp [C8]
theorem C8_app (a b : List Int) : C8 (a ++ b) = C8 a ++ C8 b := by simp [C8]
theorem C8_one (l : List Int) : ∀ u ∈ C8 l, u.oneCell' = true := by
  intro u hu; simp [C8] at hu; obtain ⟨z, _, rfl⟩ := hu; rfl
theorem C8_at {l : List Int} {j : Nat} (h : j < l.length) : (C8 l)[j]? = some (.int .u8 l[j]) := by simp [C8, h]

set_option maxHeartbeats 1000000 in
theorem full_any (A : Option Addr) (n c : Nat) (w : World) (h0 : A = none → n = 0 ∧ c = 0) (hn : n ≤ c) (hm : c ≤ maxLen) :
    Calls Tryd.prog 39 #[.slice A n c] w fun e w' => e = .returned (.slice A n n) ∧ w = w' := by
  unfold maxLen at hm
  go_enter Tryd.func39, Tryd.ntmps39
  cases A with
  | none =>
    obtain ⟨rfl, rfl⟩ := h0 rfl
    go_wp2
    go_ret
    exact ⟨rfl, rfl⟩
  | some x =>
    clear h0
    go_wp2
    go_ret
    exact ⟨rfl, rfl⟩

set_option maxRecDepth 100000 in
set_option maxHeartbeats 2000000 in
theorem appNum_any (v : Value) (n : Nat) (xs : List Value) (z : Int) (base : Nat) (w : World) (hv : Apt w base 5 v n xs) (hbase : base ≤ w.heap.size) (hn : n ≤ 1000000000) (hz : -9223372036854775808 ≤ z ∧ z ≤ 9223372036854775807) :
    Calls Tryd.prog 38 #[v, .int .i64 z] w fun e w' => ∃ v', e = .returned v' ∧ w'.ownsRow base 5 1 v' (n + (numE z).length) (xs ++ C8 (numE z)) ∧ Below base w w' := by
  obtain ⟨i0, hi0, hz0, hz1, hz2⟩ := info_parts byteInfo
  have hzl := zig_lt hz.1 hz.2
  have h10 : (numE z).length ≤ 10 := grp_len 9 _ (by have : (128:Nat)^(9+1) = 1180591620717411303424 := by decide
                                                     omega)
  have HV := Lib.hid hv; clear hv
  obtain ⟨zz, hzz⟩ : ∃ zz : Nat, zig z = zz := ⟨_, rfl⟩
  have hE : numE z = grp zz := by rw [numE, hzz]
  rw [hzz] at hzl
  have hxl : xs.length = n := HV.out.len
  go_enter Tryd.func38, Tryd.ntmps38
  refine Or.elim (Decidable.em (z < 0)) (fun hneg => ?neg) (fun hneg => ?pos)
  case neg =>
    have hq := zig_neg hz.1 hneg
    rw [hzz] at hq
    go_wp2
    clear hq
    have HZL := Lib.hid hzl; have HZ := Lib.hid hz; have HN := Lib.hid hn; clear hzl hz hn
    go_loopw [0, 5] (fun v u wr => ∃ (k : Nat) (ys : List Value) (U : Nat), Apt wr base 5 v k ys ∧ u = .int .u64 (U : Int) ∧ U < 18446744073709551616 ∧ Hid (ys ++ C8 (grp U) = xs ++ C8 (grp zz)) ∧ Below base w wr) (fun _ u _ => (intOf u).toNat)
    case atStart => exact ⟨n, xs, zz, HV.out, rfl, HZL.out, rfl, Below.refl _ _⟩
    case round =>
      obtain ⟨k, ys, U, hap, rfl, hU, hl, hb⟩ := hrel
      have hsz := hb.size
      have hlen := congrArg List.length hl.out
      rw [List.length_append, List.length_append, C8_len, C8_len, hap.len, hxl, ← hE] at hlen
      have hpos := grp_pos U
      have HU := Lib.hid hU; clear hU
      by_cases hlt : (128 : Int) ≤ (U : Int)
      · have hob := or_byte U
        go_wp2_with (at_builtin; refine wpList_append_apt _ rfl (.tmp 17) (.tmp 21) 37 rfl base 5 i0 (.int .u8 0) 1 Tryd.underlying37 hi0 hz0 hz1 hz2 rfl _ _ _ rfl (hap.alloc _) ⟨wr.heap.size, 0, none⟩ 1 1 [.int .u8 ((U % 128 + 128 : Nat) : Int)] rfl rfl (cell_one_new _ _ _) (by intro u hu; simp at hu; subst hu; rfl) (by omega) (by have := HN.out; unfold maxLen; omega) (by have := HN.out; omega) (by simp; omega) ?_; intro v1 w1 hown1 hb1; have hb2 : Below base w w1 := ((hb.alloc (by omega) _).trans hb1))
        go_roundw
        case rel =>
          refine ⟨k + 1, _, U / 128, apt_own hown1, by first | rfl | (simp; omega), by have := HU.out; omega, ?_, hb2⟩
          have := hl.out
          rw [grp_big (by omega)] at this
          show _ = _
          rw [← this]
          simp [C8]
        case measure => simp [intOf]; omega
      · have hwb : (U : Int) % 256 = (U : Int) := by omega
        have hfin : ys ++ [.int .u8 (U : Int)] = xs ++ C8 (grp zz) := by
          have := hl.out
          rw [grp_small (by omega)] at this
          simpa [C8] using this
        have HF := Lib.hid hfin; clear hfin
        have hl1 : (grp U).length = 1 := by rw [grp_small (by omega)]; rfl
        go_wp2_with (at_builtin; refine wpList_append_apt _ rfl (.tmp 23) (.tmp 26) 37 rfl base 5 i0 (.int .u8 0) 1 Tryd.underlying37 hi0 hz0 hz1 hz2 rfl _ _ _ rfl (hap.alloc _) ⟨wr.heap.size, 0, none⟩ 1 1 [.int .u8 (U : Int)] rfl rfl (cell_one_new _ _ _) (by intro u hu; simp at hu; subst hu; rfl) (by omega) (by have := HN.out; unfold maxLen; omega) (by have := HN.out; omega) (by simp; omega) ?_; intro v1 w1 hown1 hb1; have hb2 : Below base w w1 := ((hb.alloc (by omega) _).trans hb1))
        go_ret
        refine ⟨v1, rfl, ?_, hb2⟩
        rw [← HF.out]
        rw [hE] at hlen
        have : k + 1 = n + (grp zz).length := by omega
        rw [← this]; exact hown1
  case pos =>
    have hq := zig_pos hneg
    rw [hzz] at hq
    go_wp2
    clear hq
    have HZL := Lib.hid hzl; have HZ := Lib.hid hz; have HN := Lib.hid hn; clear hzl hz hn
    go_loopw [0, 5] (fun v u wr => ∃ (k : Nat) (ys : List Value) (U : Nat), Apt wr base 5 v k ys ∧ u = .int .u64 (U : Int) ∧ U < 18446744073709551616 ∧ Hid (ys ++ C8 (grp U) = xs ++ C8 (grp zz)) ∧ Below base w wr) (fun _ u _ => (intOf u).toNat)
    case atStart => exact ⟨n, xs, zz, HV.out, rfl, HZL.out, rfl, Below.refl _ _⟩
    case round =>
      obtain ⟨k, ys, U, hap, rfl, hU, hl, hb⟩ := hrel
      have hsz := hb.size
      have hlen := congrArg List.length hl.out
      rw [List.length_append, List.length_append, C8_len, C8_len, hap.len, hxl, ← hE] at hlen
      have hpos := grp_pos U
      have HU := Lib.hid hU; clear hU
      by_cases hlt : (128 : Int) ≤ (U : Int)
      · have hob := or_byte U
        go_wp2_with (at_builtin; refine wpList_append_apt _ rfl (.tmp 17) (.tmp 21) 37 rfl base 5 i0 (.int .u8 0) 1 Tryd.underlying37 hi0 hz0 hz1 hz2 rfl _ _ _ rfl (hap.alloc _) ⟨wr.heap.size, 0, none⟩ 1 1 [.int .u8 ((U % 128 + 128 : Nat) : Int)] rfl rfl (cell_one_new _ _ _) (by intro u hu; simp at hu; subst hu; rfl) (by omega) (by have := HN.out; unfold maxLen; omega) (by have := HN.out; omega) (by simp; omega) ?_; intro v1 w1 hown1 hb1; have hb2 : Below base w w1 := ((hb.alloc (by omega) _).trans hb1))
        go_roundw
        case rel =>
          refine ⟨k + 1, _, U / 128, apt_own hown1, by first | rfl | (simp; omega), by have := HU.out; omega, ?_, hb2⟩
          have := hl.out
          rw [grp_big (by omega)] at this
          show _ = _
          rw [← this]
          simp [C8]
        case measure => simp [intOf]; omega
      · have hwb : (U : Int) % 256 = (U : Int) := by omega
        have hfin : ys ++ [.int .u8 (U : Int)] = xs ++ C8 (grp zz) := by
          have := hl.out
          rw [grp_small (by omega)] at this
          simpa [C8] using this
        have HF := Lib.hid hfin; clear hfin
        have hl1 : (grp U).length = 1 := by rw [grp_small (by omega)]; rfl
        go_wp2_with (at_builtin; refine wpList_append_apt _ rfl (.tmp 23) (.tmp 26) 37 rfl base 5 i0 (.int .u8 0) 1 Tryd.underlying37 hi0 hz0 hz1 hz2 rfl _ _ _ rfl (hap.alloc _) ⟨wr.heap.size, 0, none⟩ 1 1 [.int .u8 (U : Int)] rfl rfl (cell_one_new _ _ _) (by intro u hu; simp at hu; subst hu; rfl) (by omega) (by have := HN.out; unfold maxLen; omega) (by have := HN.out; omega) (by simp; omega) ?_; intro v1 w1 hown1 hb1; have hb2 : Below base w w1 := ((hb.alloc (by omega) _).trans hb1))
        go_ret
        refine ⟨v1, rfl, ?_, hb2⟩
        rw [← HF.out]
        rw [hE] at hlen
        have : k + 1 = n + (grp zz).length := by omega
        rw [← this]; exact hown1
end Go.Proofs.YtobkafkknbdacaaDoor
