/- Walk: All of the reference. -/
import Derived.Test.YtinnmnhaeejfdaaTgCu
import Derived.Test.YtinnmnhaeejfdaaTgRFin
import Derived.OwnWalk
import Derived.Deep.Cut
import Derived.Deep.CutRange
import Derived.Deep.QuietTactic
import Derived.BigQuiet
namespace Go.Proofs.Ytinnmnhaeejfdaa.Va
open Go.RowKit

set_option maxRecDepth 100000 in
set_option maxHeartbeats 16000000 in
theorem refAll_any {w : World} {A : Option Addr} {n c : Nat} {l : List Int} (h : Byt w A n c l) (hn : n ≤ 3000) :
    Calls Try.prog 22 #[.slice A n c] w (AllOut l w) := by
  obtain ⟨i0, hi0, hz0, hz1, hz2⟩ := info_parts recInfo
  obtain ⟨k0, hk0, hy0, hy1, hy2⟩ := info_parts rejInfo
  have hlen := h.len
  have HA := Lib.hid h
  have HC0 := Lib.hid (Cut.start l)
  obtain ⟨D, hD⟩ : ∃ D, allD l = D := ⟨_, rfl⟩
  obtain ⟨E, hE⟩ : ∃ E, allE l = E := ⟨_, rfl⟩
  have HDK : Hid (∀ (k : Nat) (a : Nat × Nat), (allC l)[k]? = some a → decR (prt l a) = (D.getD k rc0, E k)) := Lib.hid (fun k a ha => by
    rw [← hD, ← hE]; exact all_at ha)
  have HLN := Lib.hid hlen; have HNN := Lib.hid hn
  have HBAD : Hid (∀ e w', allK l = false → e = .returned (.tuple #[.slice none 0 0, .slice none 0 0, .int .i64 2]) → Below w.heap.size w w' → AllOut l w e w') := Lib.hid (fun e w' h1 h2 h3 => allOut_bad h1 h2 h3)
  have HGOOD : Hid (∀ e w' k v u, allK l = true → (allC l).length = k → e = .returned (.tuple #[v, u, .int .i64 0]) → Two w NoB D E k v u NoB w' → AllOut l w e w') := Lib.hid (fun e w' k v u h1 h2 h3 h4 => allOut_good h1 h2 h3 (by rw [hD, hE]; exact h4))
  have HT0 := Lib.hid (two_nil w D E)
  clear h hlen hD hE
  go_enter Try.func22, Try.ntmps22
  go_wp2_with fail
  go_loopw [5, 6, 7, 8] (fun v u pv kv wr => ∃ k p : Nat, pv = .int .i64 p ∧ kv = .int .i64 k ∧ Hid (Cut l (allC l) (allK l) k p) ∧ Hid (Two w NoB D E k v u NoB wr)) (fun _ _ pv _ _ => n - (intOf pv).toNat)
  case atStart => exact ⟨0, 0, rfl, rfl, HC0, HT0⟩
  case round =>
    obtain ⟨k, p, rfl, rfl, HC, HT⟩ := hrel
    have hpn : p ≤ n := by have := HC.out.pn; have := HLN.out; omega
    have hk2 : 2 * k ≤ p := HC.out.two
    by_cases hlt : p < n
    · have hlt' : (p : Int) < (n : Int) := by omega
      have hkm : ((k : Int) == 4096) = false := by simp; omega
      have w1 : IntKind.i64.wrap ((p : Int) + 2) = (p : Int) + 2 := IntWalk.i64_in _ (by omega)
      have HK2 := Lib.hid hk2; have HPN := Lib.hid hlt
      clear hk2
      by_cases hs : n < p + 2
      · have hs1 : decide ((n : Int) < (p : Int) + 2) = true := decide_eq_true (by omega)
        have hs2 : (n : Int) < (p : Int) + 2 := by omega
        have HBA := Lib.hid (HC.out.bad (by have := HLN.out; omega) (.inl (by have := HLN.out; omega)))
        have HS1 := Lib.hid hs1
        have HB := Lib.hid (two_below HT.out)
        clear hs hpn
        go_upto_region 9 with fail
        go_cut [45] from 12 to 82 (fun s wx => s = .bool true ∧ Below wr.heap.size wr wx)
        case first =>
          go_quiet (fail)
          go_wp2
          go_meet
          case rel => exact ⟨by first | rfl | rw [HS1.out], below_drawn (Below.refl _ _) _⟩
        case rest =>
          obtain ⟨rfl, hb⟩ := hcut
          have HB1 := Lib.hid (HB.out.trans (hb.mono HB.out.size))
          clear hb
          go_wp2
          go_ret3
          exact HBAD.out _ _ HBA.out rfl HB1.out
      · have hs1 : decide ((n : Int) < (p : Int) + 2) = false := decide_eq_false (by omega)
        have hs2 : ¬ (n : Int) < (p : Int) + 2 := by omega
        have HY := Lib.hid (HA.out.below (two_below HT.out))
        obtain ⟨bk, off, x, hAe, hx, hcx, hbl⟩ := HY.out.at (k := p) (by omega)
        obtain ⟨bk', off', y, hAe', hy, hcy, -⟩ := HY.out.at (k := p + 1) (by omega)
        obtain ⟨rfl, rfl⟩ : bk = bk' ∧ off = off' := by rw [hAe] at hAe'; simpa using hAe'
        have hxm := List.mem_of_getElem? hx
        have hym := List.mem_of_getElem? hy
        obtain ⟨hx0, hx1⟩ := HY.out.ran x hxm
        obtain ⟨hy0', hy1'⟩ := HY.out.ran y hym
        have hnx := nx_is hx hy hx0 hy0'
        obtain ⟨e, he⟩ : ∃ e, nx l p = e := ⟨_, rfl⟩
        rw [he] at hnx
        have HEE := Lib.hid he; have HNX := Lib.hid hnx
        subst hAe
        rw [← Nat.add_assoc] at hcy
        have ib0 : (0 : Int) ≤ (p : Int) := by omega
        have ib1 : (p : Int) + 1 < (n : Int) := by omega
        have ib2 : (0 : Int) ≤ (p : Int) + 1 := by omega
        have w2 : IntKind.i64.wrap (x * 256) = x * 256 := IntWalk.i64_in _ (by omega)
        have w3 : IntKind.i64.wrap ((p : Int) + 2 + x * 256) = (p : Int) + 2 + x * 256 := IntWalk.i64_in _ (by omega)
        have w4 : IntKind.i64.wrap ((p : Int) + 2 + x * 256 + y) = (p : Int) + 2 + x * 256 + y := IntWalk.i64_in _ (by omega)
        have w5 : IntKind.i64.wrap ((p : Int) + 1) = (p : Int) + 1 := IntWalk.i64_in _ (by omega)
        have hcy' : wr.cell? ⟨bk, off + (p + 1), none⟩ = some (.int .u8 y) := by rw [← Nat.add_assoc]; exact hcy
        have tn : ((p : Int) + 1).toNat = p + 1 := by omega
        clear hAe' hxm hym he hs
        by_cases hq : n < e
        · have hq1 : decide ((n : Int) < (p : Int) + 2 + x * 256 + y) = true := decide_eq_true (by omega)
          have hq2 : (n : Int) < (p : Int) + 2 + x * 256 + y := by omega
          have HBA := Lib.hid (HC.out.bad (by have := HLN.out; omega) (.inr (by rw [HEE.out]; have := HLN.out; omega)))
          have HQ1 := Lib.hid hq1; have HS1 := Lib.hid hs1
          have HB := Lib.hid (two_below HT.out)
          clear hq hpn hx hy hnx
          go_upto_region 9 with fail
          go_cut [45] from 12 to 82 (fun s wx => s = .bool true ∧ Below wr.heap.size wr wx)
          case first =>
            go_quiet (fail)
            go_wp2
            go_meet
            case rel => exact ⟨by first | rfl | rw [HQ1.out], below_drawn (Below.refl _ _) _⟩
          case rest =>
            obtain ⟨rfl, hb⟩ := hcut
            have HB1 := Lib.hid (HB.out.trans (hb.mono HB.out.size))
            clear hb
            go_wp2
            go_ret3
            exact HBAD.out _ _ HBA.out rfl HB1.out
        · have hq1 : decide ((n : Int) < (p : Int) + 2 + x * 256 + y) = false := decide_eq_false (by omega)
          have hq2 : ¬ (n : Int) < (p : Int) + 2 + x * 256 + y := by omega
          have HQ1 := Lib.hid hq1; have HS1 := Lib.hid hs1
          have HQN : Hid (e ≤ n) := Lib.hid (by omega)
          have HCS := Lib.hid (HC.out.step (by have := HLN.out; omega) (by have := HLN.out; omega) (by rw [HEE.out]; have := HLN.out; omega))
          clear hq hpn hx hy hnx
          go_upto_region 9 with fail
          go_cut [45] from 12 to 82 (fun s wx => s = .bool false ∧ Below wr.heap.size wr wx)
          case first =>
            go_quiet (fail)
            go_wp2
            go_meet
            case rel => exact ⟨by first | rfl | rw [HQ1.out], below_drawn (Below.refl _ _) _⟩
          case rest =>
            obtain ⟨rfl, hb1⟩ := hcut
            obtain ⟨wa, hwa⟩ : ∃ wa, wa = wc := ⟨_, rfl⟩
            subst hwa
            have HTA := Lib.hid (HT.out.chg (chg_below hb1) (F1 := NoB) (fun _ h => h.elim) (fun _ h => h.elim))
            have hcx := (hb1.cell (p := ⟨bk, off + p, none⟩) hbl).trans hcx
            have hcy' := (hb1.cell (p := ⟨bk, off + (p + 1), none⟩) hbl).trans hcy'
            have hcy := (hb1.cell (p := ⟨bk, off + p + 1, none⟩) hbl).trans hcy
            clear hb1
            go_upto_region 11 with fail
            go_cut [9] from 12 to 82 (fun s wx => s = .int .i64 (e : Int) ∧ Below wa.heap.size wa wx)
            case first =>
              go_quiet (fail)
              go_wp2
              go_meet
              case rel => exact ⟨by rw [HNX.out], below_drawn (Below.refl _ _) _⟩
            case rest =>
              obtain ⟨rfl, hb2⟩ := hcut
              obtain ⟨wb, hwb⟩ : ∃ wb, wb = wc := ⟨_, rfl⟩
              subst hwb
              have HT := Lib.hid (HTA.out.chg (chg_below hb2) (F1 := NoB) (fun _ h => h.elim) (fun _ h => h.elim))
              have HY := Lib.hid (HA.out.below (two_below HT.out))
              clear hb2 hcx hcy hcy' w1 w2 w3 w4 w5 hq1 hq2 hs1 hs2
              have hcap := HY.out.cap
              have hmx := HY.out.max
              have hkp : (pasN D E k).length ≤ k := pas_len
              have hkj : (rejN E k).length ≤ k := rej_len
              have hdk := HDK.out k _ HCS.out.1
              rw [HEE.out] at hdk
              obtain ⟨r, hp⟩ : ∃ r, D.getD k rc0 = r := ⟨_, rfl⟩
              obtain ⟨s0, s1, s2, sa, sb, s5, s6, s7, s8, b9, s10, b11⟩ := r
              obtain ⟨x, hx⟩ : ∃ x, E k = x := ⟨_, rfl⟩
              have HP := Lib.hid hp; have HX := Lib.hid hx
              rw [hp, hx] at hdk
              have hen := HQN.out; have hpe : p + 2 ≤ e := by have := HNX.out; omega
              have hst : Calls Try.prog 20 #[.slice (some ⟨bk, off + p, none⟩) (e - p) (c - p)] wb fun e w' => e = .returned (.tuple #[.agg (Rc.cells ⟨s0, s1, s2, sa, sb, s5, s6, s7, s8, b9, s10, b11⟩), .int .i64 x]) ∧ Below wb.heap.size wb w' := by
                have h1 := refDecode_any (byt_take (byt_drop HY.out p (by omega)) (e - p) (by omega)) (by have := HNN.out; omega)
                unfold DecP at h1
                have h2 : (l.drop p).take (e - p) = prt l (p, e) := rfl
                rw [h2, hdk] at h1
                exact h1
              simp only [Rc.cells] at hst
              have HST := Lib.hid hst
              have HKP : Hid ((pasN D E k).length ≤ 1500) := Lib.hid (by have := HK2.out; have := HPN.out; have := HNN.out; omega)
              have HKJ : Hid ((rejN E k).length ≤ 1500) := Lib.hid (by have := HK2.out; have := HPN.out; have := HNN.out; omega)
              have b1 : (p : Int) ≤ (e : Int) := by omega
              have b2 : (e : Int) ≤ (c : Int) := by omega
              have b3 : ¬ c = p := by omega
              have wk : IntKind.i64.wrap ((k : Int) + 1) = (k : Int) + 1 := IntWalk.i64_in _ (by have := HK2.out; omega)
              clear hp hx hdk hst hkp hkj hcap hmx hen
              by_cases hx0 : x = 0
              · subst hx0
                go_wp2_with (first
                | (go_at_call 20; (with_reducible refine HST.out.mono ?_); rintro e w1 ⟨rfl, hb⟩; have HT1 := Lib.hid (HT.out.chg (chg_below hb) (F1 := NoB) (fun _ h => h.elim) (fun _ h => h.elim)); obtain ⟨c0, c1, c2, c3, c4, c5, c6, c7, c8, c9, c10, c11⟩ := (show RcB (w1.alloc (.cells #[.int .i64 s0, .int .i64 s1, .int .i64 s2, .string sa, .string sb, .int .i64 s5, .int .i64 s6, .int .i64 s7, .int .i64 s8, .bool b9, .int .i64 s10, .bool b11] 34)) w1.heap.size ⟨s0, s1, s2, sa, sb, s5, s6, s7, s8, b9, s10, b11⟩ from heap_alloc_new w1 _).cells; simp only at c0 c1 c2 c3 c4 c5 c6 c7 c8 c9 c10 c11; clear hb)
                | (at_builtin; refine wpList_append_own_at _ rfl (.tmp 72) (.tmp 74) 40 rfl w.heap.size 34 i0 _ 12 112 Try.underlying40 hi0 hz0 hz1 hz2 rfl (by decide) _ _ (recl (pasN D E k)) rfl ((HT1.out.alloc _).alloc _).ov ⟨w1.heap.size + 1, 0, none⟩ 1 1 (recl [D.getD k rc0]) rfl (by rw [recl_len]; rfl) (by rw [HP.out]; have h := Blk.srcR (r := ⟨s0, s1, s2, sa, sb, s5, s6, s7, s8, b9, s10, b11⟩) (Blk.new (w1.alloc (.cells #[.int .i64 s0, .int .i64 s1, .int .i64 s2, .string sa, .string sb, .int .i64 s5, .int .i64 s6, .int .i64 s7, .int .i64 s8, .bool b9, .int .i64 s10, .bool b11] 34)) 34 #[.int .i64 s0, .int .i64 s1, .int .i64 s2, .string sa, .string sb, .int .i64 s5, .int .i64 s6, .int .i64 s7, .int .i64 s8, .bool b9, .int .i64 s10, .bool b11]); rw [World.size_alloc] at h; exact h) (recl_one _) (by have := HKP.out; unfold maxLen; omega) (by have := HKP.out; omega) (((HT1.out.alloc _).alloc _).ch.size) ?_; intro v4 w4 g1 g2 _ g3; have HT4 := Lib.hid (((HT1.out.alloc _).alloc _).appV HX.out g1 g2 g3); clear g1 g2 g3))
                go_roundw
                case rel => exact ⟨k + 1, e, by go_num, by go_num, Lib.hid (by rw [← HEE.out]; exact HCS.out.2), HT4⟩
                case measure => simp [intOf]; omega
              · have hxq : (x == 0) = false := by simp [hx0]
                have HXN : Hid (E k ≠ 0) := Lib.hid (by rw [HX.out]; exact hx0)
                clear hx0
                go_wp2_with (first
                | (go_at_call 20; (with_reducible refine HST.out.mono ?_); rintro e w1 ⟨rfl, hb⟩; have HT1 := Lib.hid (HT.out.chg (chg_below hb) (F1 := NoB) (fun _ h => h.elim) (fun _ h => h.elim)); clear hb)
                | (at_builtin; refine wpList_append_own_at _ rfl (.tmp 76) (.tmp 80) 41 rfl w.heap.size 66 k0 _ 4 32 Try.underlying41 hk0 hy0 hy1 hy2 rfl (by decide) _ _ (jcl (rejN E k)) rfl ((HT1.out.alloc _).alloc _).ou ⟨w1.heap.size + 1, 0, none⟩ 1 1 (jcl [(0, 0, (k : Int), E k)]) rfl (by rw [jcl_len]; rfl) (by rw [HX.out]; have h := Blk.srcJ (r := (0, 0, (k : Int), x)) (Blk.new (w1.alloc (.cells #[.int .i64 s0, .int .i64 s1, .int .i64 s2, .string sa, .string sb, .int .i64 s5, .int .i64 s6, .int .i64 s7, .int .i64 s8, .bool b9, .int .i64 s10, .bool b11] 34)) 66 #[.int .i64 0, .int .i64 0, .int .i64 k, .int .i64 x]); rw [World.size_alloc] at h; exact h) (jcl_one _) (by have := HKJ.out; unfold maxLen; omega) (by have := HKJ.out; omega) (((HT1.out.alloc _).alloc _).ch.size) ?_; intro v4 w4 g1 g2 _ g3; have HT4 := Lib.hid (((HT1.out.alloc _).alloc _).appU HXN.out g1 g2 g3); clear g1 g2 g3))
                go_roundw
                case rel => exact ⟨k + 1, e, by go_num, by go_num, Lib.hid (by rw [← HEE.out]; exact HCS.out.2), HT4⟩
                case measure => simp [intOf]; omega
    · obtain rfl : p = n := by omega
      obtain ⟨hk1, hk3⟩ := HC.out.stop (by have := HLN.out; omega)
      have HK1 := Lib.hid hk1; have HK3 := Lib.hid hk3
      clear hk1 hk3
      go_wp2_with fail
      go_ret3
      exact HGOOD.out _ _ _ _ _ HK1.out HK3.out rfl HT.out
end Go.Proofs.Ytinnmnhaeejfdaa.Va
