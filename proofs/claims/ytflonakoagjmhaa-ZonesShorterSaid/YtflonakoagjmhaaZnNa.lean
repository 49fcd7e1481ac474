/- The sort of names; walk: zones.Names. -/
import Derived.Test.YtflonakoagjmhaaZnSt
import Derived.Maps.AppendAt
namespace Go.Proofs.Ytflonakoagjmhaa.Zn
open Go.RowKit Go.Lib Go.Sort Go.Shelf Go.Proofs.Ytflonakoagjmhaa

theorem bl_lt : ∀ a b : List UInt8, Op.bytesLess a b = true ↔ a < b
  | [], [] => by simp [Op.bytesLess]
  | [], y :: b => by simp [Op.bytesLess]
  | x :: a, [] => by simp [Op.bytesLess]
  | x :: a, y :: b => by
    rw [List.cons_lt_cons_iff, ← bl_lt a b]
    simp [Op.bytesLess]
theorem bl_le (a b : List UInt8) : decide (a ≤ b) = !Op.bytesLess b a := by
  have h : a ≤ b ↔ ¬ b < a := Iff.rfl
  rw [Bool.eq_iff_iff]
  simp only [decide_eq_true_eq, Bool.not_eq_true', h, ← bl_lt]
  simp
theorem le_trans' (a b c : List UInt8) (h : decide (a ≤ b) = true) (h2 : decide (b ≤ c) = true) : decide (a ≤ c) = true := by
  rw [bl_le] at *
  simp only [Bool.not_eq_true'] at *
  cases hca : Op.bytesLess c a with
  | false => rfl
  | true =>
    exfalso
    by_cases hbc : (b == c) = true
    · rw [eq_of_beq hbc] at h; rw [h] at hca; cases hca
    · have hbl : Op.bytesLess b c = true := less_total c b h2 (by rw [beq_eq_false_iff_ne]; intro e; subst e; simp at hbc)
      rw [less_trans b c a hbl hca] at h; cases h
theorem le_total' (a b : List UInt8) : (decide (a ≤ b) || decide (b ≤ a)) = true := by
  rw [bl_le, bl_le]
  cases h : Op.bytesLess b a with
  | false => rfl
  | true => rw [less_asymm b a h]; rfl
theorem own_formN {w : World} {base e size : Nat} {v : Value} {n : Nat} {xs : List Value} (h : w.ownsRow base e size v n xs) :
    ∃ A c, v = .slice A n c ∧ n ≤ c ∧ c ≤ maxLen ∧ (0 < n → ∃ g, A = some ⟨g, 0, none⟩ ∧ base ≤ g ∧ g < w.heap.size) := by
  rcases h.2 with ⟨rfl, rfl⟩ | ⟨g, cap, cur, rfl, hb, hg, hnc, hcm, hcs, htake⟩
  · exact ⟨none, 0, rfl, Nat.le_refl _, by decide, fun h => absurd h (by omega)⟩
  · exact ⟨_, _, rfl, hnc, hcm, fun _ => ⟨g, rfl, hb, (Array.getElem?_eq_some_iff.1 hg).1⟩⟩
theorem holds_str {w : World} {base g cap n : Nat} {ty : TypeId} {L : List ByteArray} (hown : w.ownsRow base ty 1 (.slice (some ⟨g, 0, none⟩) n cap) n (L.map Value.string)) (hn : L.length = n) : Holds encStr w g 0 (L.map fun s => s.data.toList).toArray := by
  intro j hj
  rw [List.size_toArray, List.length_map] at hj
  refine ⟨?_, by rw [Nat.zero_add]; exact World.ownsRow.frozenAt hown j⟩
  rw [Nat.zero_add, World.ownsRow.cellAt hown j (by omega), List.getElem?_map, List.getElem?_eq_getElem hj, getElem!_pos _ _ (by simpa using hj)]
  simp
theorem tsR_str {w : World} {g : Nat} {D : List (List UInt8)} (h : Holds encStr w g 0 D.toArray) (hg : g < w.heap.size) : TsR w (some ⟨g, 0, none⟩) (D.map fun l => ⟨l.toArray⟩) := by
  intro k hk
  rw [List.length_map] at hk
  refine ⟨g, 0, rfl, hg, ?_⟩
  have h1 := (h k (by simpa using hk)).1
  rw [h1, getElem!_pos D.toArray k (by simpa using hk)]
  simp [List.getD_eq_getElem?_getD, List.getElem?_map, hk]
set_option maxHeartbeats 4000000 in
/-- The names are sorted. -/
theorem sortN_any {w : World} {base g cap n : Nat} {L : List ByteArray} (hown : w.ownsRow base 9 1 (.slice (some ⟨g, 0, none⟩) n cap) n (L.map Value.string)) (hn : L.length = n) (hsz : n ≤ 1000000) :
    Calls Try.prog 27 #[.slice (some ⟨g, 0, none⟩) n cap] w fun e w' =>
      e = .returned (.tuple #[]) ∧ ∃ D : List (List UInt8), D.Perm (L.map fun s => s.data.toList) ∧ (D.Pairwise fun x y => Op.bytesLess y x = false) ∧ TsR w' (some ⟨g, 0, none⟩) (D.map fun l => ⟨l.toArray⟩) ∧ Below base w w' := by
  subst hn
  have hg := World.ownsRow.lt hown g rfl
  have hH := holds_str hown rfl
  have hcon := Try.slices_Sort_string g 0 cap (L.map fun s => s.data.toList) w hH hg.2 (by rw [List.length_map]; omega)
  rw [List.length_map] at hcon
  refine hcon.mono ?_
  rintro e w' ⟨rfl, n, os, rfl⟩
  obtain ⟨D, hD⟩ : ∃ D, ((L.map fun s => s.data.toList).mergeSort fun x y => decide (x ≤ y)) = D := ⟨_, rfl⟩
  have hDp : D.Perm (L.map fun s => s.data.toList) := hD ▸ List.mergeSort_perm _ _
  have hDs : D.Pairwise fun x y => Op.bytesLess y x = false := hD ▸ ((List.pairwise_mergeSort le_trans' le_total' _).imp (by
    intro x y h
    rw [bl_le] at h
    simpa using h))
  rw [hD]
  have hb : Below base w (grow (putRow encStr (Sort.ahead w n) g 0 D.toArray) os) :=
    below_grow (below_putRow (below_ahead (Below.refl _ w) n) _ _ _ _ hg.1) (by have := hg.1; have := hg.2; simp; omega) os
  have hsz2 : D.toArray.size = (L.map fun s => s.data.toList).toArray.size := by simp [hDp.length_eq]
  have hw2 : g < (grow (putRow encStr (Sort.ahead w n) g 0 D.toArray) os).heap.size := by have := hb.size; have := hg.2; omega
  have hh : Holds encStr (grow (putRow encStr (Sort.ahead w n) g 0 D.toArray) os) g 0 D.toArray :=
    holds_grow _ _ _ _ _ _ (by unfold putRow; simp [mapBlock]; exact hg.2) (holds_putRow _ _ _ _ _ _ (show Holds encStr (Sort.ahead w n) g 0 (L.map fun s => s.data.toList).toArray from hH) hsz2)
  exact ⟨rfl, D, hDp, hDs, tsR_str hh hw2, hb⟩
theorem strInfo : (Try.prog.info? 9).map (fun i => (i.zero, i.size, i.bytes)) = some (some (.string ByteArray.empty), 1, 16) := by kernel_rfl
theorem txt_src {w : World} {g : Nat} {t : TypeId} {s : ByteArray} (h : Blk w g t #[.string s]) : ∀ j v, ([Value.string s])[j]? = some v → w.cell? ((⟨g, 0, none⟩ : Addr).add j) = some v := fun j v hj => by
  rw [add_none, Nat.zero_add, h.cell j, ← hj]
  simp
theorem below_one (w : World) (o : Obj) : Below w.heap.size w (w.alloc o) := (Below.refl _ w).alloc (Nat.le_refl _) _
/-- The names of a list, ascending. -/
def NmOut (l : List Zo) (w : World) (e : Ending) (w' : World) : Prop :=
  if ckZ l = 0 then ∃ (A : Option Addr) (c : Nat) (L : List ByteArray), e = .returned (.slice A L.length c) ∧ L.length ≤ c ∧ c ≤ maxLen ∧ TsR w' A L ∧ (L.map fun s => s.data.toList).Pairwise ltN ∧ (∀ n, n ∈ L.map (fun s => s.data.toList) ↔ n ∈ nms l) ∧ L.length = l.length ∧ Below w.heap.size w w'
  else e = .returned (.slice none 0 0) ∧ Below w.heap.size w w'
def nmk (l : List Zm) (k : Nat) : List ByteArray := (l.take k).map (·.nm)
theorem nmk_next {l : List Zm} {k : Nat} (h : k < l.length) : nmk l (k + 1) = nmk l k ++ [(l.getD k zm0).nm] := by
  unfold nmk
  rw [List.take_succ_eq_append_getElem h, List.map_append, List.getD_eq_getElem?_getD, List.getElem?_eq_getElem h]; rfl
theorem nmk_len (l : List Zm) (k : Nat) (h : k ≤ l.length) : (nmk l k).length = k := by unfold nmk; rw [List.length_map, List.length_take]; omega
theorem nmk_all (l : List Zm) : (nmk l l.length).map (fun s => s.data.toList) = nms (zos l) := by
  unfold nmk nms zos
  rw [List.take_length, List.map_map, List.map_map]; rfl
/-- Sorted, and no name twice: strictly ascending. -/
theorem asc_of {D M : List Wd} (hp : D.Perm M) (hn : M.Nodup) (hs : D.Pairwise fun x y => Op.bytesLess y x = false) : D.Pairwise ltN := by
  have hd : D.Nodup := hp.nodup_iff.2 hn
  refine List.Pairwise.imp₂ ?_ hs hd
  intro x y h hne
  exact less_total y x h (by rw [beq_eq_false_iff_ne]; exact fun e => hne e.symm)
theorem toWd (D : List (List UInt8)) : (D.map fun l => (⟨l.toArray⟩ : ByteArray)).map (fun s => s.data.toList) = D := by
  rw [List.map_map]
  induction D with
  | nil => rfl
  | cons a t ih => rw [List.map_cons, ih]; rfl
set_option maxRecDepth 100000 in
set_option maxHeartbeats 8000000 in
theorem names_any (A : Option Addr) (n c : Nat) (l : List Zm) (w : World) (hA : ZsR w A l) (hn : l.length = n) (hc : n ≤ c) (hm : c ≤ maxLen) (hf : Fit l) :
    Calls Try.prog 14 #[.slice A n c] w (NmOut (zos l) w) := by
  have HC := Lib.hid (check_any A n c l w hA hn hc hm hf)
  unfold NmOut
  obtain ⟨ev, hev⟩ : ∃ ev, ckZ (zos l) = ev := ⟨_, rfl⟩
  have HEV := Lib.hid hev
  rw [hev] at HC ⊢
  clear hev
  by_cases hz : ev = 0
  · subst hz
    simp only [if_true]
    have hV := ck_vld.1 HEV.out
    have hn64 : n ≤ 64 := by have := hV.len; rw [zos_len, hn] at this; exact this
    have HV := Lib.hid hV; have HA := Lib.hid hA; have HN := Lib.hid hn
    obtain ⟨i0, hi0, hz0, hz1, hz2⟩ := info_parts strInfo
    clear hA hn hf hV hm
    go_enter Try.func14, Try.ntmps14
    go_wp2_with (go_at_call 11; (with_reducible refine HC.out.mono ?_); rintro e w1 ⟨rfl, hb1⟩; have HB1 := Lib.hid hb1; clear hb1)
    go_loopw [3, 11] (fun v iv wr => ∃ (k : Nat) (u : Value), u = v ∧ iv = .int .i64 k ∧ k ≤ n ∧ Hid (Below w.heap.size w wr) ∧ Hid (wr.ownsRow w.heap.size 9 1 u k ((nmk l k).map Value.string))) (fun _ iv _ => n - (intOf iv).toNat)
    case atStart => exact ⟨0, _, rfl, rfl, by omega, HB1, Lib.hid (World.ownsRow_nil _ _ _ _)⟩
    case round =>
      obtain ⟨k, v, rfl, rfl, hk, HB, HO⟩ := hrel
      by_cases hlt : k < n
      · have hkl : k < l.length := by rw [HN.out]; exact hlt
        have hlt' : (k : Int) < (n : Int) := by omega
        obtain ⟨bk, off, P, c2, rfl, hbl, g0, g1, -⟩ := HA.out k hkl
        have e0 := (HB.out.cell (p := ⟨bk, off + k * 2, none⟩) hbl).trans g0
        have e1 := (HB.out.cell (p := ⟨bk, off + k * 2 + 1, none⟩) hbl).trans g1
        have HX := Lib.hid (nmk_next hkl)
        obtain ⟨z, hz⟩ : ∃ z, l.getD k zm0 = z := ⟨_, rfl⟩
        rw [hz] at e0 e1 HX
        obtain ⟨x, ss⟩ := z
        simp only at e0 e1 HX
        obtain ⟨R, hR⟩ : ∃ R, wr.alloc (.cells #[.string x, .slice P ss.length c2] 37) = R := ⟨_, rfl⟩
        obtain ⟨g, hg⟩ : ∃ g, wr.heap.size = g := ⟨_, rfl⟩
        have hQ : Blk R g 37 #[.string x, .slice P ss.length c2] := hR ▸ hg ▸ Blk.new wr _ _
        have HBR := Lib.hid (HB.out.trans ((hR ▸ below_one wr _ : Below wr.heap.size wr R).mono HB.out.size))
        have HOR : Hid (R.ownsRow w.heap.size 9 1 v k ((nmk l k).map Value.string)) := Lib.hid (hR ▸ HO.out.alloc _)
        have hc0 := hQ.two.1
        clear g0 g1 hkl hz HB HO hbl
        go_wp2_with (at_builtin; refine wpList_append_own_at _ rfl (.tmp 15) (.tmp 18) 28 rfl w.heap.size 9 i0 _ 1 16 Try.underlying28 hi0 hz0 hz1 hz2 rfl (by decide) _ _ ((nmk l k).map Value.string) rfl (HOR.out.alloc _) ⟨R.heap.size, 0, none⟩ 1 1 [.string x] rfl rfl (txt_src (Blk.new R 9 _)) (by simp [Value.oneCell']) (by unfold maxLen; omega) (by omega) (by have := HBR.out.size; simp; omega) ?_; intro v4 w4 g1 g2 _ g3; have HO4 := Lib.hid g1; have HB4 := Lib.hid (below_grown (HBR.out.alloc HBR.out.size _) g2 (fun j hj => (World.ownsRow.lt HOR.out j hj).1) (by have := HBR.out.size; simp; omega)); clear g1 g2 g3)
        go_roundw
        case rel => exact ⟨k + 1, _, rfl, by go_num, by omega, HB4, Lib.hid (by rw [HX.out, List.map_append]; exact HO4.out)⟩
        case measure => simp [intOf] <;> omega
      · obtain rfl : k = n := by omega
        have HL : Hid ((nmk l k).map (fun s => s.data.toList) = nms (zos l)) := Lib.hid (by have := nmk_all l; rw [HN.out] at this; exact this)
        have HK := Lib.hid (nmk_len l k (by rw [HN.out]; exact Nat.le_refl _))
        have hown := HO.out
        obtain ⟨A9, c9, rfl, hc9, hm9, hA9⟩ := own_formN hown
        by_cases h0 : k = 0
        · subst h0
          have hnone := Try.slices_Sort_string_none A9 c9 wr
          have HNN := Lib.hid hnone
          have HM9 := Lib.hid hm9
          clear hown hA9 hm9 hnone
          go_wp2_with (go_at_call 27; (with_reducible refine HNN.out.mono ?_); rintro e w5 ⟨rfl, rfl⟩)
          go_ret
          have hl0 : l = [] := List.length_eq_zero_iff.1 HN.out
          subst hl0
          exact ⟨A9, c9, [], rfl, Nat.zero_le _, HM9.out, fun k hk => absurd hk (Nat.not_lt_zero k), by simp, by simp [nms, zos], rfl, HB.out⟩
        · obtain ⟨g, rfl, hgb, hgw⟩ := hA9 (by omega)
          have HST := Lib.hid (sortN_any hown HK.out (by omega))
          have HM9 := Lib.hid (And.intro hc9 hm9)
          clear hown hA9 hm9 hgb hgw hc9
          go_wp2_with (go_at_call 27; (with_reducible refine HST.out.mono ?_); rintro e w5 ⟨rfl, D, q1, q2, q3, q4⟩; have HQ := Lib.hid (And.intro q1 (And.intro q2 (And.intro q3 q4))); clear q1 q2 q3 q4)
          go_ret
          obtain ⟨q1, q2, q3, q4⟩ := HQ.out
          have hlen : (D.map fun l => (⟨l.toArray⟩ : ByteArray)).length = k := by rw [List.length_map, q1.length_eq, List.length_map, HK.out]
          refine ⟨_, c9, D.map fun l => ⟨l.toArray⟩, by rw [hlen] <;> rfl, by rw [hlen]; exact HM9.out.1, HM9.out.2, q3, ?_, ?_, by rw [hlen, zos_len, HN.out], HB.out.trans q4⟩
          · rw [toWd]
            exact asc_of q1 (by rw [HL.out]; exact HV.out.nd) q2
          · intro n
            rw [toWd, q1.mem_iff, HL.out]
  · simp only [hz, if_false]
    have d0 : (ev == 0) = false := by rw [beq_eq_false_iff_ne]; exact hz
    go_enter Try.func14, Try.ntmps14
    go_wp2_with (go_at_call 11; (with_reducible refine HC.out.mono ?_); rintro e w1 ⟨rfl, hb1⟩)
    go_ret
    exact ⟨rfl, hb1⟩
end Go.Proofs.Ytflonakoagjmhaa.Zn
