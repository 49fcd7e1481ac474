/- Walk of the reference: prefixes. -/
import Derived.Test.YtflonakoagjmhaaZnRx
namespace Go.Proofs.Ytflonakoagjmhaa.Zn
open Go.RowKit Go.Lib Go.Shelf Go.Proofs.Ytflonakoagjmhaa Go.Maps

theorem ins_len {m M : Nat} (h : m + 1 ≤ M) : 0 + (m + 1) + 1 + (M - (m + 1)) = M + 1 := by omega
set_option maxRecDepth 100000 in
set_option maxHeartbeats 16000000 in
theorem prefixes_any (A : Option Addr) (n c i0 : Nat) (l : List Zm) (s : ByteArray) (w : World) (hA : ZsR w A l) (hn : l.length = n) (hc : n ≤ c) (hm : c ≤ maxLen) (hf : Fit l) (hV : Vld (zos l)) (hi0 : i0 < n) (hs : (l.getD i0 zm0).nm = s) :
    Calls Try.prog 40 #[.slice A n c, .string s] w (PxOut (kp (val (pairs (zos l))) s.data.toList (l.getD i0 zm0).ps (l.getD i0 zm0).ps.length) w) := by
  have hn64 : n ≤ 64 := by have := hV.len; rw [zos_len, hn] at this; exact this
  have HV := Lib.hid hV; have HA := Lib.hid hA; have HN := Lib.hid hn; have HF := Lib.hid hf; have HS := Lib.hid hs
  have HFI := Lib.hid (fun (p : ByteArray) (hp : p.size ≤ maxLen) (W : World) (h : Below w.heap.size w W) => refFind_any A n c l p W (hA.below h) hn hc hm hf hp hV.uniq hV.full)
  obtain ⟨F, hF⟩ : ∃ F, pairs (zos l) = F := ⟨_, rfl⟩
  rw [hF] at HFI ⊢
  obtain ⟨K, hK⟩ : ∃ K, kp (val F) s.data.toList (l.getD i0 zm0).ps (l.getD i0 zm0).ps.length = K := ⟨_, rfl⟩
  rw [hK]
  have HK := Lib.hid hK
  obtain ⟨f0, hf0, hz0, hz1, hz2⟩ := info_parts strInfo
  have hinj : ∀ i, i < n → (l.getD i zm0).nm = s → i = i0 := by
    intro i hi he
    have h1 := hV.nd
    unfold nms List.Nodup at h1
    rw [List.pairwise_map, List.pairwise_iff_getElem] at h1
    have e : ∀ a b (ha : a < n) (hb : b < n), (l.getD a zm0).nm = (l.getD b zm0).nm → ((zos l)[a]'(by rw [zos_len, hn]; exact ha)).nm = ((zos l)[b]'(by rw [zos_len, hn]; exact hb)).nm := by
      intro a b ha hb hab
      rw [zos_get (by omega), zos_get (by omega)]
      show (l.getD a zm0).nm.data.toList = (l.getD b zm0).nm.data.toList
      rw [hab]
    rcases Nat.lt_trichotomy i i0 with h | h | h
    · exact absurd (e i i0 hi hi0 (by rw [he, hs])) (h1 i i0 (by rw [zos_len, hn]; exact hi) (by rw [zos_len, hn]; exact hi0) h)
    · exact h
    · exact absurd (e i0 i hi0 hi (by rw [he, hs])) (h1 i0 i (by rw [zos_len, hn]; exact hi0) (by rw [zos_len, hn]; exact hi) h)
  have HI := Lib.hid hinj
  clear hA hn hf hV hm hF hK hs hinj
  go_enter Try.func40, Try.ntmps40
  go_wp2_with fail
  go_loopw [5, 6] (fun v iv wr => ∃ (i : Nat) (B : Option Addr) (M d : Nat) (O : List ByteArray), v = .slice B M d ∧ iv = .int .i64 i ∧ i ≤ n ∧ Hid (O.length = M) ∧ M ≤ 64 ∧ M ≤ d ∧ d ≤ 9223372036854775807 ∧ Hid (M = 0 → B = none ∧ d = 0) ∧ Hid (Below w.heap.size w wr) ∧ Hid (wr.ownsRow w.heap.size 9 1 v M (O.map Value.string)) ∧ Hid (i ≤ i0 → O = []) ∧ Hid (i0 < i → SP O K)) (fun _ iv _ => n - (intOf iv).toNat)
  case atStart => exact ⟨0, none, 0, 0, [], rfl, rfl, by omega, Lib.hid rfl, by omega, by omega, by omega, Lib.hid fun _ => ⟨rfl, rfl⟩, Lib.hid (Below.refl _ _), Lib.hid (World.ownsRow_nil _ _ _ _), Lib.hid fun _ => rfl, Lib.hid fun h => absurd h (Nat.not_lt_zero _)⟩
  case round =>
    obtain ⟨i, B, M, d, O, rfl, rfl, hi, HOL, hM64, hMd, hd9, HMB, HB, HO, HE, HSP⟩ := hrel
    by_cases hlt : i < n
    · have hil : i < l.length := by rw [HN.out]; exact hlt
      have hlt' : (i : Int) < (n : Int) := by omega
      have hi0' : (0 : Int) ≤ (i : Int) := by omega
      obtain ⟨bk, off, P, c2, rfl, hbl, g0, g1, g2, g3, g4, g5⟩ := HA.out i hil
      have HBK := Lib.hid hbl
      have HG := Lib.hid (And.intro g0 g1)
      have e0 := (HB.out.cell (p := ⟨bk, off + i * 2, none⟩) hbl).trans g0
      have e1 := (HB.out.cell (p := ⟨bk, off + i * 2 + 1, none⟩) hbl).trans g1
      have HFZ := Lib.hid (HF.out.at hil rfl)
      have HPT := Lib.hid g4
      have hVZ := HV.out.ok (l.getD i zm0).zo (by rw [← zos_get hil]; exact List.getElem_mem _)
      have HVZ := Lib.hid (show (∀ p ∈ (l.getD i zm0).ps, numB p.data.toList = true) ∧ (l.getD i zm0).ps.length ≤ 64 ∧ 0 < (l.getD i zm0).ps.length from ⟨fun p hp => hVZ.2.2.2 _ (List.mem_map.2 ⟨p, hp, rfl⟩), by have := hVZ.2.2.1; simpa [Zm.zo] using this, by have := List.length_pos_iff.2 hVZ.2.1; simpa [Zm.zo] using this⟩)
      have HIN := Lib.hid (HI.out i hlt)
      obtain ⟨z, hzz⟩ : ∃ z, l.getD i zm0 = z := ⟨_, rfl⟩
      have HZZ := Lib.hid hzz
      rw [hzz] at e0 e1 HG HFZ HPT HVZ HIN
      obtain ⟨x, ss⟩ := z
      simp only at e0 e1 HG HFZ HPT HVZ HIN
      obtain ⟨L, hL⟩ : ∃ L, ss.length = L := ⟨_, rfl⟩
      rw [hL] at e1 HG HVZ
      have HL := Lib.hid hL
      have hL64 : L ≤ 64 := HVZ.out.2.1
      have hL0 : (0 : Int) < (L : Int) := by have := HVZ.out.2.2; omega
      have hL0' : 0 < L := HVZ.out.2.2
      clear g0 g1 g2 g3 g4 g5 hzz hL hil hbl hVZ
      cases hx : (x.toList == s.toList)
      · have hne : i ≠ i0 := fun h => by
          have h1 := HS.out
          rw [← h, HZZ.out] at h1
          simp only at h1
          rw [h1] at hx; simp at hx
        have HE2 : Hid (i + 1 ≤ i0 → O = []) := Lib.hid fun h => HE.out (by omega)
        have HS2 : Hid (i0 < i + 1 → SP O K) := Lib.hid fun h => HSP.out (by omega)
        go_wp2_with fail
        refine wp_loop_rounds 1 ?_
        rw [rounds_succ]
        go_wp2_with fail
        go_roundw
        case rel => exact ⟨i + 1, B, M, d, O, rfl, by go_num, by omega, HOL, hM64, hMd, hd9, HMB, HB, HO, HE2, HS2⟩
        case measure => simp [intOf] <;> omega
      · have hxs : x = s := by rw [sEq] at hx; exact ba_ext (by simpa using hx)
        have hii : i = i0 := HIN.out hxs
        have hO := HE.out (by omega)
        subst hO
        obtain rfl : M = 0 := by have := HOL.out; simpa using this.symm
        obtain ⟨rfl, rfl⟩ := HMB.out rfl
        have HKK : Hid (kp (val F) s.data.toList ss L = K) := Lib.hid (by
          have h := HK.out
          rw [← hii, HZZ.out] at h
          simp only at h
          rw [← HL.out]; exact h)
        have HII := Lib.hid hii
        clear hxs hii HE HSP HMB HOL hM64 hMd hd9
        go_wp2_with fail
        clear e0 e1
        go_loopw [5, 7] (fun v kv w9 => ∃ (k : Nat) (B : Option Addr) (M d : Nat) (O : List ByteArray), v = .slice B M d ∧ kv = .int .i64 k ∧ k ≤ L ∧ Hid (O.length = M) ∧ M ≤ k ∧ M ≤ d ∧ d ≤ 9223372036854775807 ∧ Hid (M = 0 → B = none ∧ d = 0) ∧ Hid (Below w.heap.size w w9) ∧ Hid (w9.ownsRow w.heap.size 9 1 v M (O.map Value.string)) ∧ Hid (SP O (kp (val F) s.data.toList ss k))) (fun _ kv _ => L - (intOf kv).toNat)
        case atStart => exact ⟨0, none, 0, 0, [], rfl, rfl, by omega, Lib.hid rfl, by omega, by omega, by omega, Lib.hid fun _ => ⟨rfl, rfl⟩, HB, HO, Lib.hid SP.nil⟩
        case round =>
          clear HB HO
          obtain ⟨k, B, M, d, O, rfl, rfl, hk, HOL, hMk, hMd, hd9, HMB, HB, HO, HSP⟩ := hrel
          have e0 := (HB.out.cell (p := ⟨bk, off + i * 2, none⟩) HBK.out).trans HG.out.1
          have e1 := (HB.out.cell (p := ⟨bk, off + i * 2 + 1, none⟩) HBK.out).trans HG.out.2
          by_cases hkl : k < L
          · have hkl' : (k : Int) < (L : Int) := by omega
            have hk0 : (0 : Int) ≤ (k : Int) := by omega
            have hks : k < ss.length := by rw [HL.out]; exact hkl
            obtain ⟨bp, offp, rfl, hbp, gp⟩ := HPT.out k hks
            have HY := Lib.hid (fun h => kp_yes (f := val F) (nm := s.data.toList) hks h); have HX := Lib.hid (fun h => kp_no (f := val F) (nm := s.data.toList) hks h)
            obtain ⟨p, hp⟩ : ∃ p, ss.getD k ⟨#[]⟩ = p := ⟨_, rfl⟩
            rw [hp] at gp HY HX
            have e2 := (HB.out.cell (p := ⟨bp, offp + k, none⟩) hbp).trans gp
            have hmem : p ∈ ss := by rw [← hp, List.getD_eq_getElem?_getD, List.getElem?_eq_getElem hks]; exact List.getElem_mem _
            have hps := HFZ.out.2.2 p hmem
            have hp1 : 1 ≤ p.size := by
              have h2 := List.length_pos_iff.2 (num_ne (HVZ.out.1 p hmem))
              have h3 : p.data.toList.length = p.size := by simp
              omega
            have hpI : (1 : Int) ≤ (p.size : Int) := by omega
            have hpm : (p.size : Int) ≤ 9223372036854775807 := by unfold maxLen at hps; omega
            have HPS := Lib.hid hps
            have HFN := Lib.hid (HFI.out (p.extract 0 (p.size - 1)) (by simp only [ByteArray.size_extract]; omega) _ HB.out)
            rw [ext_last] at HFN
            obtain ⟨kb, hkb⟩ : ∃ kb, keepB (val F) p.data.toList s.data.toList = kb := ⟨_, rfl⟩
            have HKB := Lib.hid hkb
            clear gp hbp hmem hps hp hks hkb
            cases kb
            · have HX2 := Lib.hid (HX.out HKB.out)
              go_wp2_with (go_at_call 30; (with_reducible refine HFN.out.mono ?_); rintro e w2 ⟨v1, rfl, hv1, -, rfl⟩; have hq : (v1.toList == s.toList) = true := by (rw [sEq, hv1]; have h := HKB.out; unfold keepB at h; simpa using h))
              go_roundw
              case rel => exact ⟨k + 1, B, M, d, O, rfl, by go_num, by omega, HOL, by omega, hMd, hd9, HMB, HB, HO, Lib.hid (by rw [HX2.out]; exact HSP.out)⟩
              case measure => simp [intOf] <;> omega
            · have HY2 := Lib.hid (HY.out HKB.out)
              go_wp2_with (go_at_call 30; (with_reducible refine HFN.out.mono ?_); rintro e w2 ⟨v1, rfl, hv1, -, rfl⟩; have hq : (v1.toList == s.toList) = false := by (rw [sEq, hv1]; have h := HKB.out; unfold keepB at h; simpa using h))
              have hMm : M ≤ 64 := by omega
              have HOS := Lib.hid (show ∀ q ∈ O, q.size ≤ maxLen from fun q hq => by
                have h1 := HSP.out.1.mem_iff.1 hq
                unfold kp at h1
                exact HFZ.out.2.2 q (List.take_subset _ _ (List.mem_filter.1 h1).1))
              clear e0 e1 e2 hq
              go_wp2_with fail
              go_loopw [9] (fun av w9 => ∃ a : Nat, av = .int .i64 a ∧ a ≤ M ∧ w9 = wr ∧ Hid (∀ j, a ≤ j → j < M → lessS p (O.getD j ⟨#[]⟩))) (fun av _ => (intOf av).toNat)
              case atStart => exact ⟨M, rfl, Nat.le_refl _, rfl, Lib.hid fun j h1 h2 => by omega⟩
              case round =>
                obtain ⟨a, rfl, ha, rfl, HHI⟩ := hrel
                have hcase : (a = 0 ∨ ∃ m, a = m + 1 ∧ ¬ lessS p (O.getD m ⟨#[]⟩)) ∨ (∃ m, a = m + 1 ∧ lessS p (O.getD m ⟨#[]⟩)) := by
                  rcases Nat.eq_zero_or_pos a with h | h
                  · exact .inl (.inl h)
                  · by_cases hl : lessS p (O.getD (a - 1) ⟨#[]⟩)
                    · exact .inr ⟨a - 1, by omega, hl⟩
                    · exact .inl (.inr ⟨a - 1, by omega, hl⟩)
                have hown := HO.out
                have hcell : ∀ m, m < M → ∃ g, B = some ⟨g, 0, none⟩ ∧ wr.cell? ⟨g, m, none⟩ = some (.string (O.getD m ⟨#[]⟩)) ∧ (O.getD m ⟨#[]⟩).size ≤ maxLen := fun m hm => by
                  obtain ⟨b, o, he, -, hc⟩ := tsR_own hown HOL.out m (by rw [HOL.out]; exact hm)
                  obtain ⟨A', c', he2, -, -, hA'⟩ := own_formN hown
                  injection he2 with h1 h2 h3
                  subst h1
                  obtain ⟨g, rfl, -, -⟩ := hA' (by omega)
                  injection he with he
                  injection he with h4 h5
                  subst h4 h5
                  rw [Nat.zero_add] at hc
                  refine ⟨_, rfl, hc, HOS.out _ ?_⟩
                  rw [List.getD_eq_getElem?_getD, List.getElem?_eq_getElem (by rw [HOL.out]; exact hm)]
                  exact List.getElem_mem _
                rcases hcase with hexit | ⟨m, rfl, hless⟩
                · have HIN2 : Hid (SP (O.take a ++ [p] ++ O.drop a) (kp (val F) s.data.toList ss (k + 1))) := Lib.hid (by
                    rw [HY2.out]
                    refine HSP.out.insert (by rw [HOL.out]; exact ha) (fun j h1 h2 => HHI.out j h1 (by rw [← HOL.out]; exact h2)) ?_
                    rcases hexit with h | ⟨m, h, hn⟩
                    · exact .inl h
                    · exact .inr (by rw [h]; simpa using hn))
                  by_cases hM0 : M = 0
                  · obtain rfl : a = 0 := by omega
                    subst hM0
                    obtain ⟨rfl, rfl⟩ := HMB.out rfl
                    have hO0 : O = [] := List.length_eq_zero_iff.1 HOL.out
                    subst hO0
                    have HA3 : Hid (Has wr none 0 0 []) := Lib.hid ⟨rfl, by simp, .inl ⟨rfl, rfl, rfl⟩⟩
                    clear hcell hexit hown
                    go_wp2_with (first
                      | (at_builtin; refine wpList_append_own_at _ rfl (.tmp 74) (.tmp 76) 28 rfl wr.heap.size 9 f0 _ 1 16 Try.underlying28 hf0 hz0 hz1 hz2 rfl (by decide) _ 0 [] rfl (World.ownsRow_nil _ _ _ _) ⟨wr.heap.size, 0, none⟩ 1 1 [.string p] rfl rfl (txt_src (Blk.new wr 9 _)) (by simp [Value.oneCell']) (by unfold maxLen; omega) (by omega) (by simp) ?_; intro v2 w2 g1 g2 _ g3; have HO2 := Lib.hid g1; have HB2 := Lib.hid (below_grown (below_one wr _) g2 (fun j hj => by cases (show (none : Option Nat) = some j from hj)) (by simp)); clear g1 g2 g3)
                      | (at_builtin; refine wpList_append_has rfl (.tmp 78) (.tmp 81) 28 rfl wr.heap.size 9 f0 _ 16 Try.underlying28 hf0 hz0 hz1 hz2 rfl _ _ _ rfl HO2.out _ _ _ _ rfl (HA3.out.below HB2.out) (by unfold maxLen; omega) (by omega) (by have := HB2.out.size; omega) ?_; intro v3 w3 g1 g2; have HO3 := Lib.hid g1; have HB3 := Lib.hid (below_grown HB2.out g2 (fun j hj => (World.ownsRow.lt HO2.out j hj).1) (by have := HB2.out.size; omega)); clear g1 g2))
                    obtain ⟨B3, c3, rfl, hc3, hm3, hB3⟩ := own_formN HO3.out
                    go_roundw
                    case rel => exact ⟨k + 1, B3, 1, c3, [p], rfl, by go_num, by omega, Lib.hid rfl, by omega, hc3, by unfold maxLen at hm3; omega, Lib.hid (fun h => by cases h), Lib.hid (HB.out.trans (HB3.out.mono HB.out.size)), Lib.hid (own_mono HO3.out HB.out.size), Lib.hid (by simpa using HIN2.out)⟩
                    case measure => simp [intOf] <;> omega
                  · have hM1 : 0 < M := by omega
                    obtain ⟨A', c', he2, -, -, hA'⟩ := own_formN hown
                    injection he2 with h1 h2 h3
                    subst h1 h3
                    obtain ⟨g, rfl, -, -⟩ := hA' hM1
                    clear hA' h2
                    rcases hexit with rfl | ⟨m, rfl, hnl⟩
                    · have HA1 : Hid (Has wr (some ⟨g, 0, none⟩) 0 d ((O.take 0).map Value.string)) := Lib.hid (has_str_own hown HOL.out 0 0 d _ (by simp) (fun j hj => absurd hj (Nat.not_lt_zero j)))
                      have HA3 : Hid (Has wr (some ⟨g, 0, none⟩) M d ((O.drop 0).map Value.string)) := Lib.hid (has_str_own hown HOL.out 0 M d _ (by simp [HOL.out]) (fun j hj => ⟨by omega, by simp⟩))
                      clear hcell hown
                      go_wp2_with (first
                        | (go_at_call 53; (with_reducible refine (HCM.out _).mono ?_); rintro e w1 ⟨rfl, rfl⟩)
                        | (at_builtin; refine wpList_append_has rfl (.tmp 69) (.tmp 72) 28 rfl wr.heap.size 9 f0 _ 16 Try.underlying28 hf0 hz0 hz1 hz2 rfl _ 0 [] rfl (World.ownsRow_nil _ _ _ _) _ _ _ _ rfl HA1.out (by unfold maxLen; omega) (by omega) (Nat.le_refl _) ?_; intro v1 w1 g1 g2; have HO1 := Lib.hid g1; have HB1 := Lib.hid (below_grown (Below.refl wr.heap.size wr) g2 (fun j hj => by cases (show (none : Option Nat) = some j from hj)) (Nat.le_refl _)); clear g1 g2)
                        | (at_builtin; refine wpList_append_own_at _ rfl (.tmp 74) (.tmp 76) 28 rfl wr.heap.size 9 f0 _ 1 16 Try.underlying28 hf0 hz0 hz1 hz2 rfl (by decide) _ _ _ rfl (HO1.out.alloc _) ⟨w1.heap.size, 0, none⟩ 1 1 [.string p] rfl rfl (txt_src (Blk.new w1 9 _)) (by simp [Value.oneCell']) (by unfold maxLen; omega) (by omega) (by have := HB1.out.size; simp; omega) ?_; intro v2 w2 g1 g2 _ g3; have HO2 := Lib.hid g1; have HB2 := Lib.hid (below_grown (HB1.out.alloc HB1.out.size _) g2 (fun j hj => (World.ownsRow.lt HO1.out j hj).1) (by have := HB1.out.size; simp; omega)); clear g1 g2 g3)
                        | (at_builtin; refine wpList_append_has rfl (.tmp 78) (.tmp 81) 28 rfl wr.heap.size 9 f0 _ 16 Try.underlying28 hf0 hz0 hz1 hz2 rfl _ _ _ rfl HO2.out _ _ _ _ rfl (HA3.out.below HB2.out) (by unfold maxLen; omega) (by omega) (by have := HB2.out.size; omega) ?_; intro v3 w3 g1 g2; have HO3 := Lib.hid g1; have HB3 := Lib.hid (below_grown HB2.out g2 (fun j hj => (World.ownsRow.lt HO2.out j hj).1) (by have := HB2.out.size; omega)); clear g1 g2))
                      have hown3 := HO3.out
                      obtain ⟨B3, c3, rfl, hc3, hm3, hB3⟩ := own_formN hown3
                      go_roundw
                      case rel =>
                        have e : 0 + 0 + 1 + M = M + 1 := by omega
                        have hxs : [] ++ (O.take 0).map Value.string ++ [Value.string p] ++ (O.drop 0).map Value.string = (O.take 0 ++ [p] ++ O.drop 0).map Value.string := by simp
                        have h9 := own_mono HO3.out HB.out.size
                        rw [e, hxs] at h9
                        refine ⟨k + 1, B3, M + 1, c3, O.take 0 ++ [p] ++ O.drop 0, by rw [e], by go_num, by omega, Lib.hid (by simp only [List.length_append, List.length_take, List.length_drop, List.length_singleton, HOL.out]; omega), by omega, by omega, by unfold maxLen at hm3; omega, Lib.hid (fun h => by omega), Lib.hid (HB.out.trans (HB3.out.mono HB.out.size)), Lib.hid (by rw [e]; exact h9), HIN2⟩
                      case measure => simp [intOf] <;> omega
                    · obtain ⟨g', hg', e5, hqs⟩ := hcell m (by omega)
                      injection hg' with hg'
                      injection hg' with hg'
                      subst hg'
                      obtain ⟨q, hq⟩ : ∃ q, O.getD m ⟨#[]⟩ = q := ⟨_, rfl⟩
                      rw [hq] at e5 hqs hnl
                      have HCM := Lib.hid (fun W => refCompare_any q p W hqs HPS.out)
                      obtain ⟨cv, hcv⟩ : ∃ cv, cmpS q p = cv := ⟨_, rfl⟩
                      rw [hcv] at HCM
                      have hc0 : decide ((0 : Int) < cv) = false := decide_eq_false (by
                        rcases cmp_three q p with ⟨h, -⟩ | ⟨h, -⟩ | ⟨-, h⟩
                        · omega
                        · omega
                        · exact absurd h hnl)
                      have t0 : decide ((0 : Int) < ((m + 1 : Nat) : Int)) = true := decide_eq_true (by omega)
                      have t1 : ((m : Nat) : Int) < (M : Int) := by omega
                      have t2 : (0 : Int) ≤ (m : Int) := by omega
                      have HA1 : Hid (Has wr (some ⟨g, 0, none⟩) (m + 1) d ((O.take (m + 1)).map Value.string)) := Lib.hid (has_str_own hown HOL.out 0 (m + 1) d _ (by rw [List.length_take, HOL.out]; omega) (fun j hj => ⟨by omega, by rw [Nat.zero_add, List.getD_eq_getElem?_getD, List.getD_eq_getElem?_getD, List.getElem?_take_of_lt hj]⟩))
                      clear hcell hcv hqs hq hnl
                      by_cases hcap : m + 1 = d
                      · have hMe : M = m + 1 := by omega
                        have hdr : O.drop (m + 1) = [] := List.drop_eq_nil_of_le (by rw [HOL.out]; omega)
                        have HDR := Lib.hid hdr
                        have HA3 : Hid (Has wr (some ⟨g, 0, none⟩) 0 0 []) := Lib.hid ⟨rfl, by simp, .inr ⟨_, rfl, fun j u hj => by simp at hj⟩⟩
                        subst hcap
                        subst hMe
                        clear hown hdr
                        go_wp2_with (first
                          | (go_at_call 53; (with_reducible refine (HCM.out _).mono ?_); rintro e w1 ⟨rfl, rfl⟩)
                          | (at_builtin; refine wpList_append_has rfl (.tmp 69) (.tmp 72) 28 rfl wr.heap.size 9 f0 _ 16 Try.underlying28 hf0 hz0 hz1 hz2 rfl _ 0 [] rfl (World.ownsRow_nil _ _ _ _) _ _ _ _ rfl HA1.out (by unfold maxLen; omega) (by omega) (Nat.le_refl _) ?_; intro v1 w1 g1 g2; have HO1 := Lib.hid g1; have HB1 := Lib.hid (below_grown (Below.refl wr.heap.size wr) g2 (fun j hj => by cases (show (none : Option Nat) = some j from hj)) (Nat.le_refl _)); clear g1 g2)
                          | (at_builtin; refine wpList_append_own_at _ rfl (.tmp 74) (.tmp 76) 28 rfl wr.heap.size 9 f0 _ 1 16 Try.underlying28 hf0 hz0 hz1 hz2 rfl (by decide) _ _ _ rfl (HO1.out.alloc _) ⟨w1.heap.size, 0, none⟩ 1 1 [.string p] rfl rfl (txt_src (Blk.new w1 9 _)) (by simp [Value.oneCell']) (by unfold maxLen; omega) (by omega) (by have := HB1.out.size; simp; omega) ?_; intro v2 w2 g1 g2 _ g3; have HO2 := Lib.hid g1; have HB2 := Lib.hid (below_grown (HB1.out.alloc HB1.out.size _) g2 (fun j hj => (World.ownsRow.lt HO1.out j hj).1) (by have := HB1.out.size; simp; omega)); clear g1 g2 g3)
                          | (at_builtin; refine wpList_append_has rfl (.tmp 78) (.tmp 81) 28 rfl wr.heap.size 9 f0 _ 16 Try.underlying28 hf0 hz0 hz1 hz2 rfl _ _ _ rfl HO2.out _ _ _ _ rfl (HA3.out.below HB2.out) (by unfold maxLen; omega) (by omega) (by have := HB2.out.size; omega) ?_; intro v3 w3 g1 g2; have HO3 := Lib.hid g1; have HB3 := Lib.hid (below_grown HB2.out g2 (fun j hj => (World.ownsRow.lt HO2.out j hj).1) (by have := HB2.out.size; omega)); clear g1 g2))
                        have hown3 := HO3.out
                        obtain ⟨B3, c3, rfl, hc3, hm3, hB3⟩ := own_formN hown3
                        go_roundw
                        case rel => exact ⟨k + 1, B3, m + 2, c3, O.take (m + 1) ++ [p] ++ O.drop (m + 1), by rw [Nat.zero_add], by go_num, by omega, Lib.hid (by rw [HDR.out, List.length_append, List.length_append, List.length_take, HOL.out]; simp), by omega, by omega, by unfold maxLen at hm3; omega, Lib.hid (fun h => by omega), Lib.hid (HB.out.trans (HB3.out.mono HB.out.size)), Lib.hid (by have h9 := own_mono HO3.out HB.out.size; rw [HDR.out]; simpa using h9), HIN2⟩
                        case measure => simp [intOf] <;> omega
                      · have hcl : m + 1 < d := by omega
                        have HA3 : Hid (Has wr (some ⟨g, m + 1, none⟩) (M - (m + 1)) (d - (m + 1)) ((O.drop (m + 1)).map Value.string)) := Lib.hid (has_str_own hown HOL.out (m + 1) (M - (m + 1)) (d - (m + 1)) _ (by rw [List.length_drop, HOL.out]) (fun j hj => ⟨by omega, by rw [List.getD_eq_getElem?_getD, List.getD_eq_getElem?_getD, List.getElem?_drop]⟩))
                        have q1 : ((m + 1 : Nat) : Int) < (d : Int) := Int.ofNat_lt.2 hcl
                        have q2 : ((m + 1 : Nat) : Int) ≤ (M : Int) := Int.ofNat_le.2 ha
                        clear hown
                        go_wp2_with (first
                          | (go_at_call 53; (with_reducible refine (HCM.out _).mono ?_); rintro e w1 ⟨rfl, rfl⟩)
                          | (at_builtin; refine wpList_append_has rfl (.tmp 69) (.tmp 72) 28 rfl wr.heap.size 9 f0 _ 16 Try.underlying28 hf0 hz0 hz1 hz2 rfl _ 0 [] rfl (World.ownsRow_nil _ _ _ _) _ _ _ _ rfl HA1.out (by unfold maxLen; omega) (by omega) (Nat.le_refl _) ?_; intro v1 w1 g1 g2; have HO1 := Lib.hid g1; have HB1 := Lib.hid (below_grown (Below.refl wr.heap.size wr) g2 (fun j hj => by cases (show (none : Option Nat) = some j from hj)) (Nat.le_refl _)); clear g1 g2)
                          | (at_builtin; refine wpList_append_own_at _ rfl (.tmp 74) (.tmp 76) 28 rfl wr.heap.size 9 f0 _ 1 16 Try.underlying28 hf0 hz0 hz1 hz2 rfl (by decide) _ _ _ rfl (HO1.out.alloc _) ⟨w1.heap.size, 0, none⟩ 1 1 [.string p] rfl rfl (txt_src (Blk.new w1 9 _)) (by simp [Value.oneCell']) (by unfold maxLen; omega) (by omega) (by have := HB1.out.size; simp; omega) ?_; intro v2 w2 g1 g2 _ g3; have HO2 := Lib.hid g1; have HB2 := Lib.hid (below_grown (HB1.out.alloc HB1.out.size _) g2 (fun j hj => (World.ownsRow.lt HO1.out j hj).1) (by have := HB1.out.size; simp; omega)); clear g1 g2 g3)
                          | (at_builtin; refine wpList_append_has rfl (.tmp 78) (.tmp 81) 28 rfl wr.heap.size 9 f0 _ 16 Try.underlying28 hf0 hz0 hz1 hz2 rfl _ _ _ rfl HO2.out _ _ _ _ rfl (HA3.out.below HB2.out) (by unfold maxLen; omega) (by omega) (by have := HB2.out.size; omega) ?_; intro v3 w3 g1 g2; have HO3 := Lib.hid g1; have HB3 := Lib.hid (below_grown HB2.out g2 (fun j hj => (World.ownsRow.lt HO2.out j hj).1) (by have := HB2.out.size; omega)); clear g1 g2))
                        have hown3 := HO3.out
                        obtain ⟨B3, c3, rfl, hc3, hm3, hB3⟩ := own_formN hown3
                        go_roundw
                        case rel =>
                          have e : 0 + (m + 1) + 1 + (M - (m + 1)) = M + 1 := ins_len ha
                          have hxs : [] ++ (O.take (m + 1)).map Value.string ++ [Value.string p] ++ (O.drop (m + 1)).map Value.string = (O.take (m + 1) ++ [p] ++ O.drop (m + 1)).map Value.string := by simp
                          have h9 := own_mono HO3.out HB.out.size
                          rw [e, hxs] at h9
                          refine ⟨k + 1, B3, M + 1, c3, O.take (m + 1) ++ [p] ++ O.drop (m + 1), by rw [e], by go_num, by omega, Lib.hid (by simp only [List.length_append, List.length_take, List.length_drop, List.length_singleton, HOL.out]; omega), by omega, by omega, by unfold maxLen at hm3; omega, Lib.hid (fun h => by omega), Lib.hid (HB.out.trans (HB3.out.mono HB.out.size)), Lib.hid (by rw [e]; exact h9), HIN2⟩
                        case measure => simp [intOf] <;> omega
                · obtain ⟨g, rfl, e5, hqs⟩ := hcell m (by omega)
                  have HH2 : Hid (∀ j, m ≤ j → j < M → lessS p (O.getD j ⟨#[]⟩)) := Lib.hid fun j h1 h2 => by
                    rcases Nat.lt_or_ge m j with h | h
                    · exact HHI.out j h h2
                    · obtain rfl : j = m := by omega
                      exact hless
                  obtain ⟨q, hq⟩ : ∃ q, O.getD m ⟨#[]⟩ = q := ⟨_, rfl⟩
                  rw [hq] at e5 hqs hless
                  have HCM := Lib.hid (fun W => refCompare_any q p W hqs HPS.out)
                  obtain ⟨cv, hcv⟩ : ∃ cv, cmpS q p = cv := ⟨_, rfl⟩
                  rw [hcv] at HCM
                  have hc0 : decide ((0 : Int) < cv) = true := decide_eq_true (by
                    rcases cmp_three q p with ⟨-, h⟩ | ⟨-, h⟩ | ⟨h, -⟩
                    · exact absurd (lessS_trans h hless) (lessS_irrefl _)
                    · subst h; exact absurd hless (lessS_irrefl _)
                    · omega)
                  have t0 : decide ((0 : Int) < ((m + 1 : Nat) : Int)) = true := decide_eq_true (by omega)
                  have t1 : ((m : Nat) : Int) < (M : Int) := by omega
                  have t2 : (0 : Int) ≤ (m : Int) := by omega
                  clear hown hcell hless hcv hqs hq
                  go_wp2_with (go_at_call 53; (with_reducible refine (HCM.out _).mono ?_); rintro e w1 ⟨rfl, rfl⟩)
                  go_roundw
                  case rel => exact ⟨m, by go_num, by omega, by trivial, HH2⟩
                  case measure => simp [intOf] <;> omega
          · obtain rfl : k = L := by omega
            have HE2 : Hid (i + 1 ≤ i0 → O = []) := Lib.hid fun h => by have := HII.out; omega
            have HS2 : Hid (i0 < i + 1 → SP O K) := Lib.hid fun h => by rw [← HKK.out]; exact HSP.out
            go_wp2_with fail
            go_roundw
            case rel => exact ⟨i + 1, B, M, d, O, rfl, by go_num, by omega, HOL, by omega, hMd, hd9, HMB, HB, HO, HE2, HS2⟩
            case measure => simp [intOf] <;> omega
    · obtain rfl : i = n := by omega
      have hsp := Lib.hid (HSP.out hi0)
      have hown := HO.out
      go_wp2_with fail
      go_ret
      refine ⟨B, d, O, by rw [HOL.out] <;> rfl, by rw [HOL.out]; exact hMd, by unfold maxLen; exact hd9, tsR_own hown HOL.out, hsp.out, fun a ha => ?_, HB.out⟩
      subst ha
      have hlt := World.ownsRow.lt hown a.block (by rcases hown.2 with ⟨h1, -⟩ | ⟨g, cap, cur, h1, -⟩; (cases h1); (injection h1 with h2; injection h2 with h3; rw [h3]; rfl))
      exact hlt
end Go.Proofs.Ytflonakoagjmhaa.Zn
