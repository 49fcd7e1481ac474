/- Walk: the limits of the slots of a period's days. -/
import Derived.Test.YtpbohnlfiaigjaaBdRA
import Derived.Test.YtpbohnlfiaigjaaIvO
namespace Go.Proofs.Ytpbohnlfiaigjaa
open Go.RowKit

theorem nsl_take {l : List Bd} {k : Nat} (hk : k < l.length) : nsl (l.take k) + (l.getD k bd0).2.length ≤ nsl l := by
  have h1 : l = l.take k ++ l.drop k := (List.take_append_drop k l).symm
  have h2 : l.drop k = l.getD k bd0 :: l.drop (k + 1) := by
    rw [List.drop_eq_getElem_cons hk]; simp [List.getD, List.getElem?_eq_getElem hk]
  have h3 : nsl l = nsl (l.take k) + nsl (l.drop k) := by
    conv => lhs; rw [h1]
    unfold nsl
    rw [List.map_append, List.sum_append]
  rw [h3, h2, nsl_cons]
  omega
theorem mul_step (a i N : Nat) (h : i < N) : a * i + a ≤ a * N := by
  have := Nat.mul_le_mul_left a h
  rwa [Nat.mul_succ] at this
theorem lim_len (l : List Bd) (d e : Int) (i N k j : Nat) {ss : List Sl} {x : ByteArray} (hi : i < N) (hk : k < l.length) (hp : l.getD k bd0 = (x, ss)) (hj : j < ss.length) : (limN l d i ++ limD e (l.take k) ++ limS e (ss.take j)).length + 2 ≤ 2 * nsl l * N := by
  have h1 := nsl_take hk
  rw [hp] at h1
  have h2 := mul_step (2 * nsl l) i N hi
  simp only [List.length_append, limN_length, limD_length, limS_length, List.length_take] at h1 ⊢
  omega
theorem limS_step {ss : List Sl} {j : Nat} {a f t : Int} (e : Int) (hj : j < ss.length) (hp : ss.getD j sl0 = (a, f, t)) : limS e (ss.take (j + 1)) = limS e (ss.take j) ++ [e * 86400 + f * 60, e * 86400 + t * 60] := by
  rw [List.take_succ_eq_append_getElem hj, limS_snoc]
  have : ss[j] = (a, f, t) := by simpa [List.getD, List.getElem?_eq_getElem hj] using hp
  rw [this]
theorem limD_step {l : List Bd} {k : Nat} {x : ByteArray} {ss : List Sl} (e : Int) (hk : k < l.length) (hp : l.getD k bd0 = (x, ss)) : limD e (l.take (k + 1)) = limD e (l.take k) ++ limS e ss := by
  rw [List.take_succ_eq_append_getElem hk, limD_snoc]
  have : l[k] = (x, ss) := by simpa [List.getD, List.getElem?_eq_getElem hk] using hp
  rw [this]
set_option maxRecDepth 100000 in
set_option maxHeartbeats 8000000 in
theorem limits_any (A : Option Addr) (n c : Nat) (l : List Bd) (a b : Int) (N : Nat) (w : World) (hA : BdR w A l) (hn : l.length = n) (hc : n ≤ c) (hm : c ≤ maxLen) (hok : ∀ b ∈ l, ∀ s ∈ b.2, okS s = true)
    (ha : 0 ≤ a) (hab : a < b) (hb4 : b ≤ 12622780800) (hN : b ≤ (a / 86400 + N) * 86400) (hN2 : (a / 86400 + N) * 86400 < b + 86400) (h5 : 2 * nsl l * N ≤ 10000) :
    Calls Try.prog 54 #[.slice A n c, .agg #[.int .i64 a, .int .i64 b]] w (InOut (limN l (a / 86400) N) w) := by
  obtain ⟨i0, hi0, hz0, hz1, hz2⟩ := info_parts intInfo
  obtain ⟨d0, hd0⟩ : ∃ d, a / 86400 = d := ⟨_, rfl⟩
  rw [hd0] at hN hN2
  have hd1 : 0 ≤ d0 := by omega
  have hd2 : d0 ≤ 146097 := by omega
  have hNN : (N : Int) ≤ 146098 := by omega
  have HA := Lib.hid hA; have HN := Lib.hid hn; have HM := Lib.hid hm; have HOK := Lib.hid hok; have H5 := Lib.hid h5
  have HP := Lib.hid (Blk.new w 37 #[.int .i64 a, .int .i64 b])
  have hmx := hm
  unfold maxLen at hmx
  rw [hd0]
  clear hA hn hm hok h5
  go_enter Try.func54, Try.ntmps54
  go_wp2_with fail
  rw [hd0]
  clear hd0
  go_loopw [5, 6] (fun v dv wr => ∃ i : Nat, dv = .int .i64 (d0 + i) ∧ i ≤ N ∧ Below w.heap.size w wr ∧ Hid (Blk wr w.heap.size 37 #[.int .i64 a, .int .i64 b]) ∧ wr.ownsRow (w.heap.size + 1) 3 1 v (limN l d0 i).length (il (limN l d0 i))) (fun _ dv _ => (b - intOf dv * 86400).toNat)
  case atStart => exact ⟨0, by simp, by omega, (Below.refl _ _).alloc (Nat.le_refl _) _, HP, World.ownsRow_nil _ _ _ _⟩
  case round =>
    clear HP
    obtain ⟨i, rfl, hi, hb, HP, hown⟩ := hrel
    have hs := hb.size
    obtain ⟨p0, p1⟩ := HP.out.two
    by_cases hlt : (d0 + i) * 86400 < b
    · have hiN : i < N := by omega
      go_wp2_with fail
      clear p0 p1
      have hdl : d0 + i ≤ 146097 := by omega
      have hwr : IntKind.i64.wrap ((d0 + i) * 86400) = (d0 + i) * 86400 := IntWalk.i64_in _ (by omega)
      go_loopw [5, 23] (fun v kv wx => ∃ k : Nat, kv = .int .i64 k ∧ k ≤ n ∧ Below w.heap.size w wx ∧ Hid (Blk wx w.heap.size 37 #[.int .i64 a, .int .i64 b]) ∧ wx.ownsRow (w.heap.size + 1) 3 1 v (limN l d0 i ++ limD (d0 + i) (l.take k)).length (il (limN l d0 i ++ limD (d0 + i) (l.take k)))) (fun _ kv _ => n - (intOf kv).toNat)
      case atStart => exact ⟨0, rfl, by omega, hb, HP, by simpa [limD] using hown⟩
      case round =>
        clear hb hs HP hown
        obtain ⟨k, rfl, hk, hb, HP, hown⟩ := hrel
        have hs := hb.size
        by_cases hkn : k < n
        · have hkl : k < l.length := by rw [HN.out]; exact hkn
          obtain ⟨bk, off, S, c2, rfl, hbl, q0, q1, q2, q3, q4, _⟩ := HA.out k hkl
          have e0 := (hb.cell (p := ⟨bk, off + k * 2, none⟩) hbl).trans q0
          have e1 := (hb.cell (p := ⟨bk, off + k * 2 + 1, none⟩) hbl).trans q1
          have hkn' : (k : Int) < (n : Int) := by omega
          obtain ⟨⟨x, ss⟩, hp⟩ : ∃ p, l.getD k bd0 = p := ⟨_, rfl⟩
          rw [hp] at e0 e1 q2 q4
          simp only at e0 e1 q2 q4
          obtain ⟨L, hL⟩ : ∃ L, ss.length = L := ⟨_, rfl⟩
          rw [hL] at e1 q2
          have hmem : (x, ss) ∈ l := by rw [← hp]; simp [List.getD, List.getElem?_eq_getElem hkl]
          have HPP := Lib.hid hp; have HL := Lib.hid hL; have HQ := Lib.hid q4
          have HOS := Lib.hid (HOK.out _ hmem)
          have hc2 := q3
          unfold maxLen at hc2
          have hown2 := World.ownsRow.alloc hown (.cells #[.string x, .slice S L c2] 25)
          have hb2 : Below w.heap.size w (wr.alloc (.cells #[.string x, .slice S L c2] 25)) := hb.alloc hs _
          have HP2 := Lib.hid (HP.out.alloc (.cells #[.string x, .slice S L c2] 25))
          clear q0 q1 q3 q4 hmem hL hp
          go_wp2_with fail
          clear e0 e1 hown hb HP hs
          go_loopw [5, 30] (fun v jv wx => ∃ j : Nat, jv = .int .i64 j ∧ j ≤ L ∧ Below w.heap.size w wx ∧ Hid (Blk wx w.heap.size 37 #[.int .i64 a, .int .i64 b]) ∧ wx.ownsRow (w.heap.size + 1) 3 1 v (limN l d0 i ++ limD (d0 + i) (l.take k) ++ limS (d0 + i) (ss.take j)).length (il (limN l d0 i ++ limD (d0 + i) (l.take k) ++ limS (d0 + i) (ss.take j)))) (fun _ jv _ => L - (intOf jv).toNat)
          case atStart => exact ⟨0, rfl, by omega, hb2, HP2, by simpa [limS] using hown2⟩
          case round =>
            clear hb2 HP2 hown2
            obtain ⟨j, rfl, hj, hb, HP, hown⟩ := hrel
            have hs := hb.size
            by_cases hjl : j < L
            · have hjl2 : j < ss.length := by rw [HL.out]; exact hjl
              obtain ⟨bj, off2, rfl, hbl2, g0, g4, g5⟩ := HQ.out j hjl2
              have f0 := (hb.cell (p := ⟨bj, off2 + j * 3, none⟩) hbl2).trans g0
              have f1 := (hb.cell (p := ⟨bj, off2 + j * 3 + 1, none⟩) hbl2).trans g4
              have f2 := (hb.cell (p := ⟨bj, off2 + j * 3 + 2, none⟩) hbl2).trans g5
              have hjl' : (j : Int) < (L : Int) := by omega
              obtain ⟨⟨dd, f, u⟩, hp⟩ : ∃ p, ss.getD j sl0 = p := ⟨_, rfl⟩
              rw [hp] at f0 f1 f2
              simp only at f0 f1 f2
              obtain ⟨_, _, hd3, hd4, hd5⟩ := sl_at HOS.out hjl2 hp
              have hq := lim_len l d0 (d0 + i) i N k j hiN (by rw [HN.out]; exact hkn) HPP.out hjl2
              have HST := Lib.hid (limS_step (d0 + i) hjl2 hp)
              have h5' := H5.out
              obtain ⟨X, hX⟩ : ∃ X, (d0 + i) * 86400 + f * 60 = X := ⟨_, rfl⟩
              obtain ⟨Y, hY⟩ : ∃ Y, (d0 + i) * 86400 + u * 60 = Y := ⟨_, rfl⟩
              rw [hX, hY] at HST
              obtain ⟨o, ho⟩ : ∃ o, limN l d0 i ++ limD (d0 + i) (l.take k) ++ limS (d0 + i) (ss.take j) = o := ⟨_, rfl⟩
              have HST2 : Hid (limN l d0 i ++ limD (d0 + i) (l.take k) ++ limS (d0 + i) (ss.take (j + 1)) = o ++ [X, Y]) := Lib.hid (by rw [HST.out, ← ho]; simp)
              rw [ho] at hq hown
              have hcell : ∀ (jj : Nat) (z : Value), [Value.int .i64 X, .int .i64 Y][jj]? = some z → ((wr.alloc (.cells #[.int .i64 dd, .int .i64 f, .int .i64 u] 88)).alloc (.cells #[.int .i64 X, .int .i64 Y] 3)).cell? ((⟨wr.heap.size + 1, 0, none⟩ : Addr).add jj) = some z := by
                have := cell_two_new' (wr.alloc (.cells #[.int .i64 dd, .int .i64 f, .int .i64 u] 88)) X Y 3
                simpa using this
              clear g0 g4 g5 hp ho HST
              go_wp2_with (first | (at_builtin; refine wpList_append_own _ rfl (.tmp 34) (.tmp 47) 30 rfl (w.heap.size + 1) 3 i0 (.int .i64 0) 1 8 Try.underlying30 hi0 hz0 hz1 hz2 rfl (by decide) _ _ _ rfl (World.ownsRow.alloc (World.ownsRow.alloc hown _) _) ⟨wr.heap.size + 1, 0, none⟩ 2 2 [.int .i64 X, .int .i64 Y] rfl rfl hcell (by intro u hu; simp at hu; rcases hu with rfl | rfl <;> rfl) (by unfold maxLen; omega) (by omega) (by simp; omega) ?_; intro v4 w4 hown4 hg4 _))
              have hb4 : Below w.heap.size w w4 := ((hb.alloc hs _).alloc (by simp; omega) _).grown hg4 (by simp; omega) (fun g hg' => by have := (World.ownsRow.lt hown g hg').1; omega)
              have HP4 := Lib.hid (((HP.out.alloc (.cells #[.int .i64 dd, .int .i64 f, .int .i64 u] 88)).alloc (.cells #[.int .i64 X, .int .i64 Y] 3)).grown hg4 (own_not hown (by omega)))
              go_roundw
              case rel => exact ⟨j + 1, by go_num, by omega, hb4, HP4, by rw [HST2.out]; simpa [il_append, il] using hown4⟩
              case measure => simp [intOf]; omega
            · obtain rfl : j = L := by omega
              have HST := Lib.hid (limD_step (d0 + i) hkl HPP.out)
              have hown2 : wr.ownsRow (w.heap.size + 1) 3 1 u5 (limN l d0 i ++ limD (d0 + i) (l.take (k + 1))).length (il (limN l d0 i ++ limD (d0 + i) (l.take (k + 1)))) := by
                rw [HST.out]
                have : ss.take j = ss := by rw [← HL.out]; exact List.take_length
                rw [this] at hown
                simpa [List.append_assoc] using hown
              clear hown
              go_wp2_with fail
              go_roundw
              case rel => exact ⟨k + 1, by go_num, by omega, hb, HP, hown2⟩
              case measure => simp [intOf]; omega
        · obtain rfl : k = n := by omega
          have hown2 : wr.ownsRow (w.heap.size + 1) 3 1 u5 (limN l d0 (i + 1)).length (il (limN l d0 (i + 1))) := by
            rw [limN_succ]
            have : l.take k = l := by rw [← HN.out]; exact List.take_length
            rw [this] at hown
            exact hown
          clear hown
          go_wp2_with fail
          go_roundw
          case rel => exact ⟨i + 1, by congr 1; omega, by omega, hb, HP, hown2⟩
          case measure => simp [intOf]; omega
    · obtain rfl : i = N := by omega
      go_wp2_with fail
      go_ret
      obtain ⟨A', c2, e1, e2, _, e3⟩ := ir_own hown rfl
      exact ⟨A', c2, by simp [e1], e2, e3, hb⟩
end Go.Proofs.Ytpbohnlfiaigjaa
