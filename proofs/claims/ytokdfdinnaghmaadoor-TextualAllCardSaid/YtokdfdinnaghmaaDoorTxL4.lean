/- Walk: the law on lines of records and other lines. -/
import Derived.Test.YtokdfdinnaghmaaDoorTxAm
import Derived.Test.YtokdfdinnaghmaaDoorLawKit
import Derived.Test.YtokdfdinnaghmaaDoorVaRs
namespace Go.Proofs.YtokdfdinnaghmaaDoor.Va
open Go Go.RowKit Go.Proofs.YtokdfdinnaghmaaDoor.Tx

/-- The texts lie in a list that came in. -/
def StrsAt (w : World) (B : Option Addr) (Z : List ByteArray) : Prop := ∀ k, k < Z.length → ∃ x, B = some x ∧ x.block < w.heap.size ∧ w.cell? (x.add k) = some (.string (Z.getD k ⟨#[]⟩))
theorem add_block (x : Addr) (k : Nat) : (x.add k).block = x.block := by
  unfold Addr.add; split <;> rfl
theorem StrsAt.below {w w' : World} {B : Option Addr} {Z : List ByteArray} (h : StrsAt w B Z) (hb : Below w.heap.size w w') : StrsAt w' B Z := fun k hk => by
  obtain ⟨x, hx, hlt, hc⟩ := h k hk
  exact ⟨x, hx, Nat.lt_of_lt_of_le hlt hb.size, (hb.cell (p := x.add k) (by rw [add_block]; exact hlt)).trans hc⟩
theorem strs_at {w : World} {B : Option Addr} {m c : Nat} {zs : List ByteArray} (h : IsStrs w B m c zs) (hlt : ∀ a, B = some a → a.block < w.heap.size) : StrsAt w B (zs.take m) ∧ (zs.take m).length = m ∧ m ≤ c ∧ c ≤ maxLen := by
  rcases h with ⟨rfl, rfl, rfl, rfl⟩ | ⟨x, rfl, h1, h2, h3, h4, h5⟩
  · exact ⟨fun k hk => by simp at hk, rfl, Nat.le_refl _, Nat.zero_le _⟩
  · have hl : (zs.take m).length = m := by rw [List.length_take]; omega
    refine ⟨fun k hk => ⟨x, rfl, hlt x rfl, ?_⟩, hl, h1, h2⟩
    rw [hl] at hk
    rw [h4 k (by omega)]
    congr 2
    rw [List.getD_eq_getElem?_getD, List.getD_eq_getElem?_getD, List.getElem?_take, if_pos hk]; rfl
theorem line_sz2 {r : Rc} (h : chkR r = 0) : (Tx.S (lineR r)).size ≤ 2020 := by
  have h1 := words_len (ln_ok h)
  have h2 := joinW_len 32 (wordsL (lnR r)) 100 h1.1
  have h3 := h1.2
  rw [Tx.S_size]
  have : (lineR r).length ≤ (wordsL (lnR r)).length * 101 := h2
  omega
/-- A text with a line feed behind it. -/
theorem nl_lines (z zc : ByteArray) (hz : z.size ≤ 200) (hc : zc.data.toList = z.data.toList ++ [10]) (w : World) : Calls Tryd.prog 14 #[.string zc] w fun e w' => ∃ p c, e = .returned (.tuple #[.slice p ((spl 10 z.data.toList).length : Nat) c, .int .i64 0]) ∧ Below w.heap.size w w' := by
  have hs : zc.size ≤ 201 := by have := congrArg List.length hc; rw [bsz, List.length_append, bsz] at this; simp at this; omega
  have h97 : (spl 10 zc.data.toList).length ≤ 4097 := by have := Tx.spl_len_le 10 zc.data.toList; rw [bsz] at this; omega
  refine (lines_any zc w (by unfold maxLen; omega)).mono fun e w' h => ?_
  obtain ⟨v, ls, he, hls, ho, hb⟩ := lines_u h h97
  rw [hc, all_snoc] at hls
  rw [hc, allX_snoc] at he
  obtain ⟨p, c, rfl⟩ := own_slice ho
  exact ⟨p, c, by rw [he, ← hls, byt_len], hb⟩
theorem tx_wl_step {D : List Rc} {k : Nat} (hk : k < D.length) {r : Rc} (hr : D.getD k rc0 = r) (h : chkR r = 0) {s0 c1 c2 : ByteArray} (h0 : s0.data.toList = TX ((wl D k).map lineR)) (h1 : c1.data.toList = s0.data.toList ++ (Tx.S (lineR r)).data.toList) (h2 : c2.data.toList = c1.data.toList ++ [10]) :
    c2.data.toList = TX ((wl D (k + 1)).map lineR) := by
  rw [wl_yes hk (by rw [hr]; exact h), hr, List.map_append, TX_app, h2, h1, h0, S_data]
  simp [TX]
/-- All of the whole text. -/
theorem all_tx {D : List Rc} {Z : List ByteArray} {n m : Nat} (hn : n ≤ 30) (hm : m ≤ 30) (s : ByteArray) (hs : s.data.toList = TX (tx D Z n m)) (hz : s.size ≤ 100000) (w : World) (hE : Env w) :
    Calls Tryd.prog 16 #[.string s] w fun e w' => ∃ v u, e = .returned (.tuple #[v, u, .int .i64 0]) ∧ w'.ownsRow w.heap.size 23 12 v (wl D n).length (recl (wl D n)) ∧
      w'.ownsRow w.heap.size 43 4 u (bl Z m).length (jcl ((List.range (bl Z m).length).map fun i => ((0 : Int), (0 : Int), (((wl D n).length + i : Nat) : Int), allE (TX (tx D Z n m)) ((wl D n).length + i)))) ∧ Below w.heap.size w w' := by
  have h97 : (spl 10 s.data.toList).length ≤ 4097 := by
    rw [hs, spl_TX _ tx_cln, List.length_append]
    unfold tx
    rw [List.length_append, List.length_map]
    have h1 := wl_len (D := D) (k := n); have h2 := bl_len (Z := Z) (k := m)
    simp only [List.length_cons, List.length_nil]; omega
  refine (all_any s w hz h97 hE).mono fun e w' h => ?_
  unfold AllOut at h
  rw [hs] at h
  obtain ⟨v, u, he, ht⟩ := h
  have hx : allX (TX (tx D Z n m)) = 0 := by unfold allX; rw [if_pos (ok_TX _)]
  have hl := (tx_E (D := D) (Z := Z) (n := n) (m := m)).2.2
  have ov := ht.ov; have ou := ht.ou
  rw [hl] at ov ou
  rw [tx_pas] at ov
  rw [tx_rej] at ou
  rw [List.length_map, List.length_range] at ou
  exact ⟨v, u, by rw [he, hx], ov, ou, two_below ht⟩
theorem own_base {w : World} {B e size n : Nat} {v : Value} {xs : List Value} (h : w.ownsRow B e size v n xs) : ∀ k, v.ownBlock = some k → B ≤ k := fun k hk => (World.ownsRow.lt h k hk).1
set_option maxRecDepth 100000 in
set_option maxHeartbeats 16000000 in
theorem walkTextualAll (A : Option Addr) (n c : Nat) (D : List Rc) (B : Option Addr) (m d : Nat) (zs : List ByteArray) (w : World) (hn : D.length = n) (hc : n ≤ c) (hcm : c ≤ maxLen) (hA : RecR w A D) (_hAl : ∀ a, A = some a → a.block < w.heap.size) (hS : IsStrs w B m d zs) (hSl : ∀ a, B = some a → a.block < w.heap.size) (hE : Env w) :
    Calls Tryd.prog 7 #[.slice A n c, .slice B m d] w fun e w' => e = .returned (.bool true) ∧ Below w.heap.size w w' := by
  have HV : Hid (∀ W, Below w.heap.size w W → Env W) := Lib.hid fun W h => hE.below h
  obtain ⟨hZ, hzl, hmd, hdm⟩ := strs_at hS hSl
  obtain ⟨Z, hZe⟩ : ∃ Z, zs.take m = Z := ⟨_, rfl⟩
  rw [hZe] at hZ hzl
  have HA := Lib.hid hA; have HZ := Lib.hid hZ; have HNL := Lib.hid hn; have HML := Lib.hid hzl
  clear hE hA hS hZ hZe hn hzl _hAl hSl
  by_cases h30 : 30 < n
  · have d0 : decide ((30 : Int) < (n : Int)) = true := decide_eq_true (by omega)
    clear h30
    go_enter Tryd.func7, Tryd.ntmps7
    go_wp2_with (go_at_call 9; (with_reducible refine (alive_any _ (HV.out _ (Below.refl _ _))).mono ?_); rintro e w2 ⟨rfl, hb2⟩; have HB2 := Lib.hid hb2; clear hb2)
    go_ret
    exact ⟨rfl, HB2.out⟩
  have d0 : decide ((30 : Int) < (n : Int)) = false := decide_eq_false (by omega)
  by_cases h31 : 30 < m
  · have d1 : decide ((30 : Int) < (m : Int)) = true := decide_eq_true (by omega)
    clear h30 h31
    go_enter Tryd.func7, Tryd.ntmps7
    go_wp2_with (go_at_call 9; (with_reducible refine (alive_any _ (HV.out _ (Below.refl _ _))).mono ?_); rintro e w2 ⟨rfl, hb2⟩; have HB2 := Lib.hid hb2; clear hb2)
    go_ret
    exact ⟨rfl, HB2.out⟩
  have d1 : decide ((30 : Int) < (m : Int)) = false := decide_eq_false (by omega)
  have hn30 : n ≤ 30 := by omega
  have hm30 : m ≤ 30 := by omega
  clear h30 h31
  obtain ⟨i0, hi0, hz0, hz1, hz2⟩ := info_parts recInfo
  go_enter Tryd.func7, Tryd.ntmps7
  go_wp2_with fail
  clear d0 d1
  go_loopw [5, 7, 8] (fun sv vv iv wr => ∃ (k : Nat) (s0 : ByteArray) (v : Value), sv = .string s0 ∧ v = vv ∧ iv = .int .i64 k ∧ k ≤ n ∧ Hid (s0.size ≤ k * 2100) ∧ Hid (s0.data.toList = TX ((wl D k).map lineR)) ∧ Hid (wr.ownsRow w.heap.size 23 12 v (wl D k).length (recl (wl D k))) ∧ Hid (Below w.heap.size w wr)) (fun _ _ iv _ => n - (intOf iv).toNat)
  case atStart => exact ⟨0, ⟨#[]⟩, _, rfl, rfl, rfl, by omega, Lib.hid (by decide), Lib.hid rfl, Lib.hid (World.ownsRow_nil _ _ _ _), Lib.hid (Below.refl _ _)⟩
  case round =>
    obtain ⟨k, s0, v, rfl, rfl, rfl, hk, HSS, HST, HOV, HBR⟩ := hrel
    by_cases hlt : k < n
    · have hlt' : (k : Int) < (n : Int) := by omega
      have hk0 : (0 : Int) ≤ (k : Int) := by omega
      have HKL : Hid (k < D.length) := Lib.hid (by rw [HNL.out]; exact hlt)
      obtain ⟨b, off, rfl, hbl, hrc⟩ := (HA.out.below HBR.out) k HKL.out
      obtain ⟨o, ho⟩ : ∃ o, off + k * 12 = o := ⟨_, rfl⟩
      obtain ⟨r, hr⟩ : ∃ r, D.getD k rc0 = r := ⟨_, rfl⟩
      have HRC : Hid (∀ W, Below w.heap.size w W → RcC W b o r) := Lib.hid (fun W hW => by
        obtain ⟨b2, off2, he, -, h2⟩ := (HA.out.below hW) k HKL.out
        injection he with he; injection he with e1 e2
        rw [e1, ← ho, e2, ← hr]; exact h2)
      have HR := Lib.hid hr
      clear hbl hrc hr
      cases hsh : shB r with
      | false =>
        have hs1 := short_is hsh
        have hcc := (HRC.out _ HBR.out).all
        obtain ⟨s0', s1, s2, sa, sb, s5, s6, s7, s8, b9, s10, b11⟩ := r
        simp only [Rc.cells] at hs1
        obtain ⟨k0, k1, k2, k3, k4, k5, k6, k7, k8, k9, k10, k11⟩ := hcc
        simp only at k0 k1 k2 k3 k4 k5 k6 k7 k8 k9 k10 k11
        have HS1 := Lib.hid hs1
        clear hs1 hsh
        go_wp2_with (first
          | (go_at_call 8; (with_reducible refine (HS1.out _).mono ?_); rintro e w1 ⟨rfl, hb⟩; have HB1 := Lib.hid (HBR.out.trans (hb.mono HBR.out.size)); clear hb)
          | (go_at_call 9; (with_reducible refine (alive_any _ (HV.out _ HB1.out)).mono ?_); rintro e w2 ⟨rfl, hb⟩; have HB2 := Lib.hid (HB1.out.trans (hb.mono HB1.out.size)); clear hb))
        go_ret
        exact ⟨rfl, HB2.out⟩
      | true =>
        obtain ⟨za, zb⟩ := sh_sz hsh
        have hs1 := short_is hsh
        obtain ⟨x, hx⟩ : ∃ x, chkR r = x := ⟨_, rfl⟩
        obtain ⟨t, ht⟩ : ∃ t, encT r = t := ⟨_, rfl⟩
        have he := enc_gives ht hx za zb
        by_cases hx0 : x = 0
        · subst hx0
          have ht2 : t = Tx.S (lineR r) := by rw [← ht, enc_line hx]
          have hsz : t.size ≤ 2020 := by rw [ht2]; exact line_sz2 hx
          have hss := HSS.out
          obtain ⟨c1, f1, z1, a1, g1⟩ := add_ex s0 t (by omega)
          obtain ⟨c2, f2, z2, a2, g2⟩ := add_ex c1 ⟨#[10]⟩ (by rw [z1]; have : (⟨#[10]⟩ : ByteArray).size = 1 := rfl; omega)
          have HST2 : Hid (c2.data.toList = TX ((wl D (k + 1)).map lineR)) := Lib.hid (tx_wl_step HKL.out HR.out hx HST.out (by rw [f1, ht2]) f2)
          have HSS2 : Hid (c2.size ≤ (k + 1) * 2100) := Lib.hid (by rw [z2, z1]; have : (⟨#[10]⟩ : ByteArray).size = 1 := rfl; omega)
          replace g2 : ¬ 9223372036854775807 < c1.size + 1 := g2
          have HWY : Hid (wl D (k + 1) = wl D k ++ [r]) := Lib.hid (by rw [wl_yes HKL.out (by rw [HR.out]; exact hx), HR.out])
          have HWK : Hid ((wl D k).length ≤ k) := Lib.hid wl_len
          have hcc := (HRC.out _ HBR.out).all
          obtain ⟨s0', s1, s2, sa, sb, s5, s6, s7, s8, b9, s10, b11⟩ := r
          simp only [Rc.cells] at hs1 he
          obtain ⟨k0, k1, k2, k3, k4, k5, k6, k7, k8, k9, k10, k11⟩ := hcc
          simp only at k0 k1 k2 k3 k4 k5 k6 k7 k8 k9 k10 k11
          have HS1 := Lib.hid hs1; have HEN := Lib.hid he; have HHN := Lib.hid hn30
          clear hs1 hsh he ht ht2 hx za zb f1 f2 z1 z2 hss hsz
          go_wp2_with (first
            | (go_at_call 8; (with_reducible refine (HS1.out _).mono ?_); rintro e w1 ⟨rfl, hb⟩; have HB1 := Lib.hid (HBR.out.trans (hb.mono HBR.out.size)); have HO1 := Lib.hid (own_keep HOV.out hb); clear hb k0 k1 k2 k3 k4 k5 k6 k7 k8 k9 k10 k11; obtain ⟨k0, k1, k2, k3, k4, k5, k6, k7, k8, k9, k10, k11⟩ := (HRC.out _ HB1.out).all; simp only at k0 k1 k2 k3 k4 k5 k6 k7 k8 k9 k10 k11)
            | (go_at_call 10; (with_reducible refine (HEN.out _ (HV.out _ HB1.out)).mono ?_); rintro e w2 ⟨rfl, hb⟩; have HB2 := Lib.hid (HB1.out.trans (hb.mono HB1.out.size)); have HO2 := Lib.hid (own_keep HO1.out hb); clear hb k0 k1 k2 k3 k4 k5 k6 k7 k8 k9 k10 k11; obtain ⟨k0, k1, k2, k3, k4, k5, k6, k7, k8, k9, k10, k11⟩ := (HRC.out _ HB2.out).all; simp only at k0 k1 k2 k3 k4 k5 k6 k7 k8 k9 k10 k11)
            | (at_builtin; refine wpList_append_own_at _ rfl (.tmp 56) (.tmp 61) 35 rfl w.heap.size 23 i0 _ 12 112 Tryd.underlying35 hi0 hz0 hz1 hz2 rfl (by decide) _ _ (recl (wl D k)) rfl (own_keep HO2.out (below_lit w2 _)) ⟨w2.heap.size, 0, none⟩ 1 1 (recl [⟨s0', s1, s2, sa, sb, s5, s6, s7, s8, b9, s10, b11⟩]) rfl (by rw [recl_len]; rfl) (Blk.srcR (r := ⟨s0', s1, s2, sa, sb, s5, s6, s7, s8, b9, s10, b11⟩) (Blk.new w2 23 #[.int .i64 s0', .int .i64 s1, .int .i64 s2, .string sa, .string sb, .int .i64 s5, .int .i64 s6, .int .i64 s7, .int .i64 s8, .bool b9, .int .i64 s10, .bool b11])) (recl_one _) (by have := HWK.out; have := HHN.out; unfold maxLen; omega) (by have := HWK.out; have := HHN.out; omega) (Nat.le_trans HB2.out.size (by simp)) ?_; intro v4 w4 q1 q2 _ _; have HO4 : Hid (w4.ownsRow w.heap.size 23 12 v4 (wl D (k + 1)).length (recl (wl D (k + 1)))) := Lib.hid (by rw [HWY.out, recl_app, List.length_append]; exact q1); have HB4 := Lib.hid (below_grownT (HB2.out.trans ((below_lit w2 (.cells #[.int .i64 s0', .int .i64 s1, .int .i64 s2, .string sa, .string sb, .int .i64 s5, .int .i64 s6, .int .i64 s7, .int .i64 s8, .bool b9, .int .i64 s10, .bool b11] 23)).mono HB2.out.size)) q2 (own_base HO2.out) (Nat.le_trans HB2.out.size (by simp))); clear q1 q2))
          go_roundw
          case rel => exact ⟨k + 1, c2, v4, rfl, rfl, by go_num, by omega, HSS2, HST2, HO4, HB4⟩
          case measure => simp [intOf]; omega
        · have hxb : (x == 0) = false := by simp [hx0]
          have HWN : Hid (wl D (k + 1) = wl D k) := Lib.hid (wl_no HKL.out (by rw [HR.out, hx]; exact hx0))
          have hcc := (HRC.out _ HBR.out).all
          obtain ⟨s0', s1, s2, sa, sb, s5, s6, s7, s8, b9, s10, b11⟩ := r
          simp only [Rc.cells] at hs1 he
          obtain ⟨k0, k1, k2, k3, k4, k5, k6, k7, k8, k9, k10, k11⟩ := hcc
          simp only at k0 k1 k2 k3 k4 k5 k6 k7 k8 k9 k10 k11
          have HS1 := Lib.hid hs1; have HEN := Lib.hid he
          clear hs1 hsh he ht hx za zb hx0
          go_wp2_with (first
            | (go_at_call 8; (with_reducible refine (HS1.out _).mono ?_); rintro e w1 ⟨rfl, hb⟩; have HB1 := Lib.hid (HBR.out.trans (hb.mono HBR.out.size)); have HO1 := Lib.hid (own_keep HOV.out hb); clear hb k0 k1 k2 k3 k4 k5 k6 k7 k8 k9 k10 k11; obtain ⟨k0, k1, k2, k3, k4, k5, k6, k7, k8, k9, k10, k11⟩ := (HRC.out _ HB1.out).all; simp only at k0 k1 k2 k3 k4 k5 k6 k7 k8 k9 k10 k11)
            | (go_at_call 10; (with_reducible refine (HEN.out _ (HV.out _ HB1.out)).mono ?_); rintro e w2 ⟨rfl, hb⟩; have HB2 := Lib.hid (HB1.out.trans (hb.mono HB1.out.size)); have HO2 := Lib.hid (own_keep HO1.out hb); clear hb))
          go_roundw
          case rel => exact ⟨k + 1, s0, v, rfl, rfl, by go_num, by omega, Lib.hid (by have := HSS.out; omega), Lib.hid (by rw [HWN.out]; exact HST.out), Lib.hid (by rw [HWN.out]; exact HO2.out), HB2⟩
          case measure => simp [intOf]; omega
    · obtain rfl : n = k := by omega
      clear hlt hk
      go_wp2_with fail
      go_loopw [5, 6, 11] (fun sv nv iv wr => ∃ (j : Nat) (s1 : ByteArray) (q : Nat), sv = .string s1 ∧ nv = .int .i64 q ∧ iv = .int .i64 j ∧ j ≤ m ∧ q ≤ j ∧ Hid (s1.size ≤ 70000 + j * 300) ∧ Hid ((bl Z j).length = q) ∧ Hid (s1.data.toList = TX (tx D Z n j)) ∧ Hid (wr.ownsRow w.heap.size 23 12 v (wl D n).length (recl (wl D n))) ∧ Hid (Below w.heap.size w wr)) (fun _ _ iv _ => m - (intOf iv).toNat)
      case atStart => exact ⟨0, s0, 0, rfl, rfl, rfl, by omega, by omega, Lib.hid (by have := HSS.out; omega), Lib.hid rfl, Lib.hid (by rw [HST.out]; simp [tx, bl]), HOV, HBR⟩
      case round =>
        obtain ⟨j, s1, q, rfl, rfl, rfl, hj, hq, HSS1, HQ, HST1, HOV1, HB0⟩ := hrel
        clear HSS HST HOV HBR
        by_cases hlt : j < m
        · have hlt' : (j : Int) < (m : Int) := by omega
          have hj0 : (0 : Int) ≤ (j : Int) := by omega
          have HJL : Hid (j < Z.length) := Lib.hid (by rw [HML.out]; exact hlt)
          obtain ⟨x, rfl, hxl, -⟩ := HZ.out j HJL.out
          obtain ⟨z, hz⟩ : ∃ z, Z.getD j ⟨#[]⟩ = z := ⟨_, rfl⟩
          have HC : Hid (∀ W, Below w.heap.size w W → W.cell? (x.add j) = some (.string z)) := Lib.hid (fun W hW => by
            obtain ⟨x2, he, -, h2⟩ := (HZ.out.below hW) j HJL.out
            injection he with he
            rw [he, ← hz]; exact h2)
          have hbs := bl_step HJL.out hz
          have qc := HC.out _ HB0.out
          by_cases hz2 : 200 < z.size
          · have e0 : decide ((200 : Int) < (z.size : Int)) = true := decide_eq_true (by omega)
            clear hz2 hbs hz
            go_wp2_with (go_at_call 9; (with_reducible refine (alive_any _ (HV.out _ HB0.out)).mono ?_); rintro e w2 ⟨rfl, hb⟩; have HB2 := Lib.hid (HB0.out.trans (hb.mono HB0.out.size)); clear hb)
            go_ret
            exact ⟨rfl, HB2.out⟩
          · have e0 : decide ((200 : Int) < (z.size : Int)) = false := decide_eq_false (by omega)
            obtain ⟨zc, f1, z1, a1, g1⟩ := add_ex z ⟨#[10]⟩ (by have : (⟨#[10]⟩ : ByteArray).size = 1 := rfl; omega)
            replace g1 : ¬ 9223372036854775807 < z.size + 1 := g1
            have hli := nl_lines z zc (by omega) f1
            cases ho : oneB z.data.toList with
            | false =>
              obtain ⟨u, hu⟩ : ∃ u, (spl 10 z.data.toList).length = u := ⟨_, rfl⟩
              have hu1 : u ≠ 1 := fun e => by have := one_len.1 (hu.trans e); rw [ho] at this; cases this
              have e1 : ((u : Int) != 1) = true := by rw [bne_iff_ne]; omega
              have e2 : (u != 1) = true := by rw [bne_iff_ne]; exact hu1
              rw [hu] at hli
              rw [ho, Bool.false_and, if_neg (by decide)] at hbs
              have HLI := Lib.hid hli; have HBS := Lib.hid hbs
              clear hli hbs hz hz2 ho hu hu1 f1 z1
              go_wp2_with (go_at_call 14; (with_reducible refine (HLI.out _).mono ?_); rintro e w2 ⟨p, cc, rfl, hb⟩; have HB2 := Lib.hid (HB0.out.trans (hb.mono HB0.out.size)); have HO2 := Lib.hid (own_keep HOV1.out hb); clear hb)
              go_roundw
              case rel => exact ⟨j + 1, s1, q, rfl, rfl, by go_num, by omega, by omega, Lib.hid (by have := HSS1.out; omega), Lib.hid (by rw [HBS.out]; exact HQ.out), Lib.hid (by rw [HST1.out]; unfold tx; rw [HBS.out]), HO2, HB2⟩
              case measure => simp [intOf]; omega
            | true =>
              rw [one_len.2 ho] at hli
              obtain ⟨⟨p, y⟩, hd⟩ : ∃ d, decT z.data.toList = d := ⟨_, rfl⟩
              have hde := dec_gives hd (by omega)
              rw [ho, Bool.true_and, hd] at hbs
              by_cases hy0 : y = 0
              · subst hy0
                rw [if_neg (by simp)] at hbs
                obtain ⟨t0, t1, t2, ta, tb, t5, t6, t7, t8, d9, t10, d11⟩ := p
                simp only [Rc.cells] at hde
                have HLI := Lib.hid hli; have HBS := Lib.hid hbs; have HDE := Lib.hid hde
                clear hli hbs hde hz hz2 ho f1 z1 hd
                go_wp2_with (first
                  | (go_at_call 14; (with_reducible refine (HLI.out _).mono ?_); rintro e w2 ⟨p, cc, rfl, hb⟩; have HB2 := Lib.hid (HB0.out.trans (hb.mono HB0.out.size)); have HO2 := Lib.hid (own_keep HOV1.out hb); clear hb qc; have qc := HC.out _ HB2.out)
                  | (go_at_call 12; (with_reducible refine (HDE.out _ (HV.out _ HB2.out)).mono ?_); rintro e w3 ⟨rfl, hb⟩; have HB3 := Lib.hid ((HB2.out.trans (hb.mono HB2.out.size)).alloc (Nat.le_trans HB2.out.size hb.size) (.cells #[.int .i64 t0, .int .i64 t1, .int .i64 t2, .string ta, .string tb, .int .i64 t5, .int .i64 t6, .int .i64 t7, .int .i64 t8, .bool d9, .int .i64 t10, .bool d11] 23)); have HO3 := Lib.hid (own_keep (own_keep HO2.out hb) (below_lit w3 (.cells #[.int .i64 t0, .int .i64 t1, .int .i64 t2, .string ta, .string tb, .int .i64 t5, .int .i64 t6, .int .i64 t7, .int .i64 t8, .bool d9, .int .i64 t10, .bool d11] 23))); clear hb))
                go_roundw
                case rel => exact ⟨j + 1, s1, q, rfl, rfl, by go_num, by omega, by omega, Lib.hid (by have := HSS1.out; omega), Lib.hid (by rw [HBS.out]; exact HQ.out), Lib.hid (by rw [HST1.out]; unfold tx; rw [HBS.out]), HO3, HB3⟩
                case measure => simp [intOf]; omega
              · have hyb : (y != 0) = true := by simp [hy0]
                rw [if_pos (by simp [hy0])] at hbs
                have hss := HSS1.out
                obtain ⟨c3, f3, z3, a3, g3⟩ := add_ex s1 z (by omega)
                obtain ⟨c4, f4, z4, a4, g4⟩ := add_ex c3 ⟨#[10]⟩ (by rw [z3]; have : (⟨#[10]⟩ : ByteArray).size = 1 := rfl; omega)
                replace g4 : ¬ 9223372036854775807 < c3.size + 1 := g4
                have HST4 : Hid (c4.data.toList = TX (tx D Z n (j + 1))) := Lib.hid (by rw [f4, f3, HST1.out]; unfold tx; rw [hbs, ← List.append_assoc, TX_app _ [_], TX_one, List.append_assoc])
                have HSS4 : Hid (c4.size ≤ 70000 + (j + 1) * 300) := Lib.hid (by rw [z4, z3]; have : (⟨#[10]⟩ : ByteArray).size = 1 := rfl; omega)
                have HQ4 : Hid ((bl Z (j + 1)).length = q + 1) := Lib.hid (by rw [hbs, List.length_append, HQ.out]; rfl)
                obtain ⟨t0, t1, t2, ta, tb, t5, t6, t7, t8, d9, t10, d11⟩ := p
                simp only [Rc.cells] at hde
                have HLI := Lib.hid hli; have HDE := Lib.hid hde
                clear hli hbs hde hz hz2 ho f1 z1 hd hy0 f3 z3 f4 z4 hss
                go_wp2_with (first
                  | (go_at_call 14; (with_reducible refine (HLI.out _).mono ?_); rintro e w2 ⟨p, cc, rfl, hb⟩; have HB2 := Lib.hid (HB0.out.trans (hb.mono HB0.out.size)); have HO2 := Lib.hid (own_keep HOV1.out hb); clear hb qc; have qc := HC.out _ HB2.out)
                  | (go_at_call 12; (with_reducible refine (HDE.out _ (HV.out _ HB2.out)).mono ?_); rintro e w3 ⟨rfl, hb⟩; have HB3 := Lib.hid ((HB2.out.trans (hb.mono HB2.out.size)).alloc (Nat.le_trans HB2.out.size hb.size) (.cells #[.int .i64 t0, .int .i64 t1, .int .i64 t2, .string ta, .string tb, .int .i64 t5, .int .i64 t6, .int .i64 t7, .int .i64 t8, .bool d9, .int .i64 t10, .bool d11] 23)); have HO3 := Lib.hid (own_keep (own_keep HO2.out hb) (below_lit w3 (.cells #[.int .i64 t0, .int .i64 t1, .int .i64 t2, .string ta, .string tb, .int .i64 t5, .int .i64 t6, .int .i64 t7, .int .i64 t8, .bool d9, .int .i64 t10, .bool d11] 23))); clear hb qc; have qc := HC.out _ HB3.out))
                go_roundw
                case rel => exact ⟨j + 1, c4, q + 1, rfl, by go_num, by go_num, by omega, by omega, HSS4, HQ4, HST4, HO3, HB3⟩
                case measure => simp [intOf]; omega
        · obtain rfl : m = j := by omega
          clear hlt hj
          have hal := all_tx (D := D) (Z := Z) (n := n) (m := m) hn30 hm30 s1 HST1.out (by have := HSS1.out; omega)
          obtain ⟨a, ha⟩ : ∃ a, (wl D n).length = a := ⟨_, rfl⟩
          have ha30 : a ≤ 30 := by rw [← ha]; exact Nat.le_trans wl_len hn30
          obtain ⟨E, hEe⟩ : ∃ E, allE (TX (tx D Z n m)) = E := ⟨_, rfl⟩
          have hEn := (tx_E (D := D) (Z := Z) (n := n) (m := m)).2.1
          rw [hEe, ha, HQ.out] at hal
          rw [hEe, ha, HQ.out] at hEn
          have HAL := Lib.hid hal; have HEN := Lib.hid hEn; have HAA := Lib.hid ha
          clear hal hEn hEe ha
          go_wp2_with (first
            | (go_at_call 16; (with_reducible refine (HAL.out _ (HV.out _ HB0.out)).mono ?_); rintro e w3 ⟨v3, u3, rfl, o3, o4, hb⟩; have h1 := own_keep HOV1.out hb; rw [HAA.out] at h1; obtain ⟨A1, c1, rfl, -, -, r1, -⟩ := rec_own h1 HAA.out; obtain ⟨A3, c3, rfl, -, -, r3, -⟩ := rec_own o3 HAA.out; obtain ⟨A4, c4, rfl, -, -, r4, -⟩ := rj_own o4 (by simp); have HR1 := Lib.hid r1; have HR3 := Lib.hid r3; have HR4 := Lib.hid r4; have HB3 := Lib.hid (HB0.out.trans (hb.mono HB0.out.size)); clear hb h1 o3 o4 r1 r3 r4)
            | (go_at_call 18; (with_reducible refine (same09 A3 A1 a c3 c1 _ w3 HR3.out HR1.out HAA.out (by omega)).mono ?_); rintro e w4 ⟨rfl, hb⟩; have HR5 := Lib.hid (HR4.out.below hb); have HB4 := Lib.hid (HB3.out.trans (hb.mono HB3.out.size)); clear hb))
          go_loop [19] (fun iv => ∃ k : Nat, iv = .int .i64 k ∧ k ≤ q) (fun iv => q - (intOf iv).toNat)
          case atStart => exact ⟨0, rfl, by omega⟩
          case round =>
            obtain ⟨k, rfl, hk⟩ := hrel
            by_cases hlt : k < q
            · have hlt' : (k : Int) < (q : Int) := by omega
              have hk0 : (0 : Int) ≤ (k : Int) := by omega
              obtain ⟨b2, off2, rfl, hb2, c5, c6, c7, c8⟩ := HR5.out k (by simpa using hlt)
              have hg : (List.map (fun i => ((0 : Int), (0 : Int), ((a + i : Nat) : Int), E (a + i))) (List.range q)).getD k rj0 = ((0 : Int), (0 : Int), ((a + k : Nat) : Int), E (a + k)) := by
                rw [List.getD_eq_getElem?_getD, List.getElem?_map, List.getElem?_range hlt]; rfl
              rw [hg] at c5 c6 c7 c8
              simp only [Int.natCast_add] at c5 c6 c7 c8
              obtain ⟨y, hy⟩ : ∃ y, E (a + k) = y := ⟨_, rfl⟩
              have hy0 := HEN.out k hlt
              rw [hy] at c8 hy0
              have hyb : (y == 0) = false := by simp [hy0]
              obtain ⟨o, ho⟩ : ∃ o, off2 + k * 4 = o := ⟨_, rfl⟩
              rw [ho] at c5 c6 c7 c8
              clear hg hy hy0
              go_wp2_with fail
              go_round
              case rel => exact ⟨k + 1, by go_num, by omega⟩
              case measure => simp [intOf]; omega
            · obtain rfl : k = q := by omega
              go_wp2_with (go_at_call 9; (with_reducible refine (alive_any _ (HV.out _ HB4.out)).mono ?_); rintro e w5 ⟨rfl, hb⟩; have HB5 := Lib.hid (HB4.out.trans (hb.mono HB4.out.size)); clear hb)
              go_ret
              exact ⟨rfl, HB5.out⟩
/- How the lists of TextualAll come in. -/
set_option maxRecDepth 100000 in
theorem strs_lt {W : World} {base : Nat} {a : Addr} {len cap : Nat} (h : Value.okWide Tryd.prog W .any base 32 (.slice (some a) len cap)) : a.block < W.heap.size := by
  simp only [Value.okWide, Tryd.underlying32, Cell.okWide, Cell.ok, World.has] at h
  obtain ⟨_, _, _, _, row, cells, hs, _⟩ := h
  rcases Nat.lt_or_ge a.block W.heap.size with h | h
  · exact h
  · simp [World.shape?, Array.getElem?_eq_none h] at hs
end Go.Proofs.YtokdfdinnaghmaaDoor.Va
