/- Walk of the reference: the minutes of the day at which a slot begins or ends. -/
import Derived.Test.YtpbohnlfiaigjaaBdPc
namespace Go.Proofs.Ytpbohnlfiaigjaa
open Go.RowKit

def lmS (m : Int) (s : Sl) : Bool := decide (s.2.1 = m) || decide (s.2.2 = m)
def lmB (m : Int) (b : Bd) : Bool := b.2.any (lmS m)
def lmt (l : List Bd) (m : Int) : Bool := decide (m = 0) || l.any (lmB m)
def minN (l : List Bd) (k : Nat) : List Int := ((List.range k).map fun (i : Nat) => (i : Int)).filter (lmt l)
theorem minN_succ (l : List Bd) (k : Nat) : minN l (k + 1) = minN l k ++ if lmt l k then [(k : Int)] else [] := by
  unfold minN
  rw [List.range_succ, List.map_append, List.filter_append]
  congr 1
  simp [List.filter_cons]
theorem minN_length (l : List Bd) (k : Nat) : (minN l k).length ≤ k := by
  unfold minN
  exact Nat.le_trans (List.length_filter_le _ _) (by simp)
theorem minN_mem {l : List Bd} {k : Nat} {x : Int} : x ∈ minN l k ↔ 0 ≤ x ∧ x < k ∧ lmt l x = true := by
  unfold minN
  rw [List.mem_filter, List.mem_map]
  constructor
  · rintro ⟨⟨i, hi, rfl⟩, h⟩
    exact ⟨by omega, by have := List.mem_range.1 hi; omega, h⟩
  · rintro ⟨h1, h2, h3⟩
    exact ⟨⟨x.toNat, List.mem_range.2 (by omega), by omega⟩, h3⟩
theorem minN_asc (l : List Bd) (k : Nat) : (minN l k).Pairwise (· < ·) := by
  unfold minN
  refine List.Pairwise.filter _ ?_
  rw [List.pairwise_map]
  exact List.Pairwise.imp (fun h => by omega) (List.pairwise_lt_range)
theorem lm_base (l : List Bd) (m : Int) (v : Bool) (h : (m == 0) = v) : v = (decide (m = 0) || (l.take 0).any (lmB m)) := by
  rw [List.take_zero, List.any_nil, Bool.or_false, ← h]
  by_cases hm : m = 0 <;> simp [hm]
theorem lm_in {l : List Bd} {i j : Nat} {m : Int} {v : Bool} {ss : List Sl} {d f t : Int} (hj : j < ss.length) (hp : ss.getD j sl0 = (d, f, t)) (h : v = (decide (m = 0) || (l.take i).any (lmB m) || (ss.take j).any (lmS m))) :
    (v || (f == m) || (t == m)) = (decide (m = 0) || (l.take i).any (lmB m) || (ss.take (j + 1)).any (lmS m)) := by
  have e : ss.take (j + 1) = ss.take j ++ [(d, f, t)] := by
    rw [List.take_succ_eq_append_getElem hj]
    have : ss[j] = (d, f, t) := by simpa [List.getD, List.getElem?_eq_getElem hj] using hp
    rw [this]
  have e1 : lmS m (d, f, t) = ((f == m) || (t == m)) := by
    unfold lmS
    by_cases h1 : f = m <;> by_cases h2 : t = m <;> simp [h1, h2]
  rw [e, List.any_append, List.any_cons, List.any_nil, Bool.or_false, e1, h]
  simp only [Bool.or_assoc]
theorem lm_next {l : List Bd} {i : Nat} {m : Int} {v : Bool} {x : ByteArray} {ss : List Sl} (hi : i < l.length) (hp : l.getD i bd0 = (x, ss)) (h : v = (decide (m = 0) || (l.take i).any (lmB m) || ss.any (lmS m))) :
    v = (decide (m = 0) || (l.take (i + 1)).any (lmB m)) := by
  have e : l.take (i + 1) = l.take i ++ [(x, ss)] := by
    rw [List.take_succ_eq_append_getElem hi]
    have : l[i] = (x, ss) := by simpa [List.getD, List.getElem?_eq_getElem hi] using hp
    rw [this]
  rw [e, List.any_append, List.any_cons, List.any_nil, Bool.or_false, h, Bool.or_assoc]
  rfl
set_option maxHeartbeats 8000000 in
theorem minutes_any (A : Option Addr) (n c : Nat) (l : List Bd) (w : World) (hA : BdR w A l) (hn : l.length = n) (hc : n ≤ c) (hm : c ≤ maxLen) :
    Calls Try.prog 55 #[.slice A n c] w (InOut (minN l 1440) w) := by
  obtain ⟨i0, hi0, hz0, hz1, hz2⟩ := info_parts intInfo
  have HA := Lib.hid hA; have HN := Lib.hid hn
  have hmx := hm
  unfold maxLen at hmx
  clear hA hn hm
  go_enter Try.func55, Try.ntmps55
  go_wp2_with fail
  go_loopw [3, 4] (fun v mv wr => ∃ k : Nat, mv = .int .i64 k ∧ k ≤ 1440 ∧ Below w.heap.size w wr ∧ wr.ownsRow w.heap.size 3 1 v (minN l k).length (il (minN l k))) (fun _ mv _ => 1440 - (intOf mv).toNat)
  case atStart => exact ⟨0, rfl, by omega, Below.refl _ _, World.ownsRow_nil _ _ _ _⟩
  case round =>
    obtain ⟨k, rfl, hk, hb, hown⟩ := hrel
    have hs := hb.size
    by_cases hlt : k < 1440
    · have hlt' : (k : Int) < 1440 := by omega
      obtain ⟨z, hz⟩ : ∃ z, ((k : Int) == 0) = z := ⟨_, rfl⟩
      have HZ := Lib.hid (lm_base l k z hz)
      go_wp2_with fail
      clear hz
      go_loopw [5, 6] (fun bv iv wx => ∃ (i : Nat) (v : Bool), iv = .int .i64 i ∧ i ≤ n ∧ bv = .bool v ∧ wx = wr ∧ Hid (v = (decide ((k : Int) = 0) || (l.take i).any (lmB k)))) (fun _ iv _ => n - (intOf iv).toNat)
      case atStart => exact ⟨0, z, rfl, by omega, rfl, rfl, HZ⟩
      case round =>
        clear HZ
        obtain ⟨i, v, rfl, hi, rfl, rfl, HV⟩ := hrel
        by_cases hin : i < n
        · have hil : i < l.length := by rw [HN.out]; exact hin
          obtain ⟨bk, off, S, c2, rfl, hbl, q0, q1, q2, q3, q4, _⟩ := HA.out i hil
          have e1 := (hb.cell (p := ⟨bk, off + i * 2 + 1, none⟩) hbl).trans q1
          have hin' : (i : Int) < (n : Int) := by omega
          obtain ⟨⟨x, ss⟩, hp⟩ : ∃ p, l.getD i bd0 = p := ⟨_, rfl⟩
          rw [hp] at e1 q2 q4
          simp only at e1 q2 q4
          obtain ⟨L, hL⟩ : ∃ L, ss.length = L := ⟨_, rfl⟩
          rw [hL] at e1 q2
          have HPP := Lib.hid hp; have HL := Lib.hid hL; have HQ := Lib.hid q4
          have hc2 := q3
          unfold maxLen at hc2
          clear q0 q1 q3 q4 hL hp
          have HV0 : Hid (v = (decide ((k : Int) = 0) || (l.take i).any (lmB k) || (ss.take 0).any (lmS k))) := Lib.hid (by rw [List.take_zero, List.any_nil, Bool.or_false]; exact HV.out)
          go_wp2_with fail
          clear HV
          go_loopw [5, 7] (fun bv jv wx => ∃ (j : Nat) (v : Bool), jv = .int .i64 j ∧ j ≤ L ∧ bv = .bool v ∧ wx = wr ∧ Hid (v = (decide ((k : Int) = 0) || (l.take i).any (lmB k) || (ss.take j).any (lmS k)))) (fun _ jv _ => L - (intOf jv).toNat)
          case atStart => exact ⟨0, v, rfl, by omega, rfl, rfl, HV0⟩
          case round =>
            clear HV0
            obtain ⟨j, v, rfl, hj, rfl, rfl, HV⟩ := hrel
            by_cases hjl : j < L
            · have hjl2 : j < ss.length := by rw [HL.out]; exact hjl
              obtain ⟨bj, off2, rfl, hbl2, g0, g4, g5⟩ := HQ.out j hjl2
              have f1 := (hb.cell (p := ⟨bj, off2 + j * 3 + 1, none⟩) hbl2).trans g4
              have f2 := (hb.cell (p := ⟨bj, off2 + j * 3 + 2, none⟩) hbl2).trans g5
              have hjl' : (j : Int) < (L : Int) := by omega
              obtain ⟨⟨dd, f, u⟩, hp⟩ : ∃ p, ss.getD j sl0 = p := ⟨_, rfl⟩
              rw [hp] at f1 f2
              simp only at f1 f2
              have HV2 := Lib.hid (lm_in hjl2 hp HV.out)
              clear g0 g4 g5 hp HV
              cases v
              · cases h1 : (f == (k : Int))
                · cases h2 : (u == (k : Int))
                  all_goals
                    have HV3 := Lib.hid HV2.out
                    rw [h1, h2] at HV3
                    clear HV2
                    go_wp2_with fail
                    go_roundw
                    case rel => exact ⟨j + 1, _, by go_num, by omega, rfl, trivial, HV3⟩
                    case measure => simp [intOf]; omega
                · have HV3 := Lib.hid HV2.out
                  rw [h1, Bool.false_or, Bool.true_or] at HV3
                  clear HV2
                  go_wp2_with fail
                  go_roundw
                  case rel => exact ⟨j + 1, _, by go_num, by omega, rfl, trivial, HV3⟩
                  case measure => simp [intOf]; omega
              · have HV3 := Lib.hid HV2.out
                rw [Bool.true_or, Bool.true_or] at HV3
                clear HV2
                go_wp2_with fail
                go_roundw
                case rel => exact ⟨j + 1, _, by go_num, by omega, rfl, trivial, HV3⟩
                case measure => simp [intOf]; omega
            · obtain rfl : j = L := by omega
              have HV2 := Lib.hid (lm_next (m := k) (v := v) hil HPP.out (by have := HV.out; rwa [show ss.take j = ss by rw [← HL.out]; exact List.take_length] at this))
              clear HV
              go_wp2_with fail
              go_roundw
              case rel => exact ⟨i + 1, v, by go_num, by omega, rfl, trivial, HV2⟩
              case measure => simp [intOf]; omega
        · obtain rfl : i = n := by omega
          have HV2 : Hid (lmt l k = v) := Lib.hid (by have := HV.out; rw [show l.take i = l by rw [← HN.out]; exact List.take_length] at this; exact this.symm)
          have HM := Lib.hid (minN_succ l k)
          have hlen := minN_length l k
          clear HV
          cases v
          · have HM2 : Hid (minN l (k + 1) = minN l k) := Lib.hid (by rw [HM.out, HV2.out]; simp)
            go_wp2_with fail
            go_roundw
            case rel => exact ⟨k + 1, by go_num, by omega, hb, by rw [HM2.out]; exact hown⟩
            case measure => simp [intOf]; omega
          · have HM2 : Hid (minN l (k + 1) = minN l k ++ [(k : Int)]) := Lib.hid (by rw [HM.out, HV2.out]; simp)
            obtain ⟨o, ho⟩ : ∃ o, minN l k = o := ⟨_, rfl⟩
            rw [ho] at hlen hown HM2
            clear ho HM
            go_wp2_with (first | (at_builtin; refine wpList_append_own _ rfl (.tmp 58) (.tmp 60) 30 rfl w.heap.size 3 i0 (.int .i64 0) 1 8 Try.underlying30 hi0 hz0 hz1 hz2 rfl (by decide) _ _ _ rfl (World.ownsRow.alloc hown _) ⟨wr.heap.size, 0, none⟩ 1 1 [.int .i64 k] rfl rfl (cell_one_new' _ _ _) (by intro u hu; simp at hu; subst hu; rfl) (by unfold maxLen; omega) (by omega) (by simp; omega) ?_; intro v4 w4 hown4 hg4 _))
            have hb4 : Below w.heap.size w w4 := (hb.alloc hs _).grown hg4 (by simp; omega) (fun g hg' => by have := (World.ownsRow.lt hown g hg').1; omega)
            go_roundw
            case rel => exact ⟨k + 1, by go_num, by omega, hb4, by rw [HM2.out]; simpa [il_append, il] using hown4⟩
            case measure => simp [intOf]; omega
    · obtain rfl : k = 1440 := by omega
      go_wp2_with fail
      go_ret
      obtain ⟨A', c2, e1, e2, _, e3⟩ := ir_own hown rfl
      exact ⟨A', c2, by simp [e1], e2, e3, hb⟩
end Go.Proofs.Ytpbohnlfiaigjaa
