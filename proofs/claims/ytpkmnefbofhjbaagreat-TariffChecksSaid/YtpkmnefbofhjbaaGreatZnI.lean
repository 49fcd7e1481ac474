/- Walks: zones.index and zones.Check. -/
import Derived.Test.YtpkmnefbofhjbaaGreatZnC
namespace Go.Proofs.YtpkmnefbofhjbaaGreat.Zn
open Go.RowKit Go.Proofs.YtpkmnefbofhjbaaGreat Go.Maps

/-- A name, as bytes. -/
def nmB (x : Wd) : Bool := Pd.nmOk ⟨⟨x⟩⟩
theorem nmB_eq (x : ByteArray) : Pd.nmOk x = nmB x.data.toList := rfl
theorem nmB_ne {x : Wd} (h : nmB x = true) : x ≠ [] := by
  rintro rfl
  exact absurd h (by decide)
/-- The zones are put into the map one by one, up to the first error. -/
def ixF : List Zo → List (Wd × Wd) → List Zo → Int × List (Wd × Wd)
  | _, L, [] => (0, L)
  | seen, L, z :: t =>
    if nmB z.nm = false then (8, L)
    else if (seen.any fun e => e.nm == z.nm) = true then (10, L)
    else if (adZ L z).1 = 0 then ixF (seen ++ [z]) (adZ L z).2 t
    else adZ L z
def ixL (l : List Zo) : Int × List (Wd × Wd) := if 64 < l.length then (5, []) else ixF [] [] l
def zos (l : List Zm) : List Zo := l.map Zm.zo
theorem zos_len (l : List Zm) : (zos l).length = l.length := List.length_map _
theorem zos_any (l : List Zm) (y : Wd) : ((zos l).any fun e => e.nm == y) = l.any (nmE y) := by
  unfold zos
  rw [List.any_map]; rfl
theorem zos_drop {l : List Zm} {k : Nat} (h : k < l.length) {z : Zm} (hz : l.getD k zm0 = z) : zos (l.drop k) = z.zo :: zos (l.drop (k + 1)) := by
  rw [List.drop_eq_getElem_cons h, ← hz, List.getD_eq_getElem?_getD, List.getElem?_eq_getElem h]; rfl
theorem zos_take {l : List Zm} {k : Nat} (h : k < l.length) {z : Zm} (hz : l.getD k zm0 = z) : zos (l.take (k + 1)) = zos (l.take k) ++ [z.zo] := by
  rw [List.take_succ_eq_append_getElem h, ← hz, List.getD_eq_getElem?_getD, List.getElem?_eq_getElem h]
  unfold zos
  rw [List.map_append]; rfl
/-- What is asked of the sizes. -/
def Fit (l : List Zm) : Prop := ∀ z ∈ l, z.ps.length ≤ 1000000 ∧ z.nm.size ≤ maxLen ∧ ∀ p ∈ z.ps, p.size ≤ maxLen
theorem Fit.at {l : List Zm} (h : Fit l) {k : Nat} (hk : k < l.length) {z : Zm} (hz : l.getD k zm0 = z) : z.ps.length ≤ 1000000 ∧ z.nm.size ≤ maxLen ∧ ∀ p ∈ z.ps, p.size ≤ maxLen := by
  refine h z ?_
  rw [← hz, List.getD_eq_getElem?_getD, List.getElem?_eq_getElem hk]
  exact List.getElem_mem hk
def IdxOut (l : List Zo) (w : World) (e : Ending) (w' : World) : Prop :=
  if (ixL l).1 = 0 then ∃ b n, e = .returned (.tuple #[.map (some b), .int .i64 0]) ∧ SMap w' b n (ixL l).2 ∧ w.heap.size ≤ b ∧ Below w.heap.size w w'
  else e = .returned (.tuple #[.map none, .int .i64 (ixL l).1]) ∧ Below w.heap.size w w'
theorem IdxOut.bad {l : List Zo} {w w' : World} {v : Int} (h : (ixL l).1 = v) (h0 : v ≠ 0) (hb : Below w.heap.size w w') : IdxOut l w (.returned (.tuple #[.map none, .int .i64 v])) w' := by
  unfold IdxOut
  rw [if_neg (by rw [h]; exact h0), h]
  exact ⟨rfl, hb⟩
theorem nameValid_is (s : ByteArray) (v : Bool) (h : nmB s.data.toList = v) (w : World) (hs : s.size ≤ maxLen) : Calls Tryz.prog 30 #[.string s] w fun e w' => e = .returned (.bool v) ∧ Below w.heap.size w w' := by
  rw [← h, ← nmB_eq]; exact Pd.nameValid_any s w hs
set_option maxRecDepth 100000 in
set_option maxHeartbeats 8000000 in
theorem index_any (A : Option Addr) (n c : Nat) (l : List Zm) (w : World) (hA : ZsR w A l) (hn : l.length = n) (hc : n ≤ c) (hm : c ≤ maxLen) (hf : Fit l) :
    Calls Tryz.prog 71 #[.slice A n c] w (IdxOut (zos l) w) := by
  have hmx := hm
  unfold maxLen at hm
  by_cases h64 : 64 < n
  · have d1 : decide ((64 : Int) < (n : Int)) = true := decide_eq_true (by omega)
    have HR : Hid ((ixL (zos l)).1 = 5) := Lib.hid (by unfold ixL; rw [if_pos (by rw [zos_len, hn]; exact h64)])
    clear hA hn h64 hf
    go_enter Tryz.func71, Tryz.ntmps71
    go_wp2
    go_ret2
    exact IdxOut.bad HR.out (by decide) (Below.refl _ _)
  · have d1 : decide ((64 : Int) < (n : Int)) = false := decide_eq_false (by omega)
    have HV : Hid (ixL (zos l) = ixF [] [] (zos l)) := Lib.hid (by unfold ixL; rw [if_neg (by rw [zos_len, hn]; exact h64)])
    have HA := Lib.hid hA; have HN := Lib.hid hn; have HM := Lib.hid hmx; have HF := Lib.hid hf
    have HS0 := Lib.hid (SMap.made w)
    have hn64 : n ≤ 64 := by omega
    have hmm := @run_makeMap Tryz.prog
    have HBA : Hid (Below w.heap.size w (w.alloc (.map #[] 0))) := Lib.hid ((Below.refl _ _).alloc (Nat.le_refl _) _)
    clear hA hn hf h64 hmx
    go_enter Tryz.func71, Tryz.ntmps71
    go_wp2_with fail
    clear d1 hmm
    go_loopw [14] (fun iv wr => ∃ (k : Nat) (K : List (Wd × Wd)), iv = .int .i64 k ∧ k ≤ n ∧ Below w.heap.size w wr ∧ Hid (SMap wr w.heap.size (k * 1000000) K) ∧ Hid (Named K) ∧ Hid (ixF (zos (l.take k)) K (zos (l.drop k)) = ixF [] [] (zos l))) (fun iv _ => n - (intOf iv).toNat)
    case atStart => exact ⟨0, [], rfl, by omega, HBA.out, HS0, Lib.hid (fun p m h => absurd h (by simp)), Lib.hid (by simp [zos])⟩
    case round =>
      obtain ⟨k, K, rfl, hk, hb, HK, HKN, HO⟩ := hrel
      have hs := hb.size
      by_cases hlt : k < n
      · have hkl : k < l.length := by rw [HN.out]; exact hlt
        obtain ⟨bk, off, P, c2, rfl, hbl, g0, g1, g2, g3, g4, g5⟩ := HA.out k hkl
        have e0 := (hb.cell (p := ⟨bk, off + k * 2, none⟩) hbl).trans g0
        have e1 := (hb.cell (p := ⟨bk, off + k * 2 + 1, none⟩) hbl).trans g1
        have hlt' : (k : Int) < (n : Int) := by omega
        obtain ⟨z, hp⟩ : ∃ p, l.getD k zm0 = p := ⟨_, rfl⟩
        have hfz := HF.out.at hkl hp
        have ho := HO.out
        rw [zos_drop hkl hp, ixF] at ho
        have HTK := Lib.hid (zos_take hkl hp)
        rw [hp] at e0 e1 g2 g4
        have HAC := Lib.hid (fun (W : World) (h1 : SMap W w.heap.size (k * 1000000) K) (h2 : Below w.heap.size w W) (h3 : z.nm.data.toList ≠ []) => addPrefixes_any (z := z) (P := P) (c := c2) h1 HKN.out h3 hfz.2.1 (g4.below h2) g2 g3 (fun a ha hq => g5 a ha (by rw [hp]; exact hq)) hfz.2.2 (by have := hfz.1; unfold maxLen; omega))
        have HFZ := Lib.hid hfz
        obtain ⟨x, ss⟩ := z
        simp only at e0 e1 g2 g4 HAC HFZ
        obtain ⟨L, hL⟩ : ∃ L, ss.length = L := ⟨_, rfl⟩
        rw [hL] at e1 HAC
        have HLL := Lib.hid (show L ≤ 1000000 from hL ▸ hfz.1)
        have hBn := Blk.new wr 57 #[.string x, .slice P L c2]
        have hbn : Below w.heap.size w (wr.alloc (.cells #[.string x, .slice P L c2] 57)) := hb.alloc hs _
        have c0 := hBn.cell 0
        have hsn := hbn.size
        have HBn := Lib.hid hBn
        have HKn : Hid (SMap (wr.alloc (.cells #[.string x, .slice P L c2] 57)) w.heap.size (k * 1000000) K) := Lib.hid (HK.out.below ((Below.refl _ _).alloc (Nat.le_refl _) _))
        clear g0 g1 g2 g3 g4 g5 hp hBn hL hfz
        cases hv : nmB x.data.toList
        · have HN1 := Lib.hid (fun W => nameValid_is x _ hv W HFZ.out.2.1)
          rw [if_pos (show nmB (Zm.zo ⟨x, ss⟩).nm = false from hv)] at ho
          have HR : Hid ((ixL (zos l)).1 = 8) := Lib.hid (by rw [HV.out, ← ho])
          clear hv HO ho
          go_wp2_with (go_at_call 30; (with_reducible refine (HN1.out _).mono ?_); rintro e w1 ⟨rfl, hb1⟩; have hb2 := hbn.trans (hb1.mono hsn))
          go_ret2
          exact IdxOut.bad HR.out (by decide) hb2
        · have HN1 := Lib.hid (fun W => nameValid_is x _ hv W HFZ.out.2.1)
          have HNE := Lib.hid (nmB_ne hv)
          rw [if_neg (by rw [show (Zm.zo ⟨x, ss⟩).nm = x.data.toList from rfl, hv]; decide)] at ho
          cases hx : (l.take k).any (nmE x.data.toList)
          · have HC1 := Lib.hid (fun W h1 h2 => containsF_is (some ⟨bk, off, none⟩) n k c l x (.slice P L c2) wr.heap.size W h1 HN.out (by omega) hc HM.out h2 false hx)
            rw [if_neg (by rw [zos_any, show (Zm.zo ⟨x, ss⟩).nm = x.data.toList from rfl, hx]; decide)] at ho
            have HOZ := Lib.hid ho
            obtain ⟨r, hr⟩ : ∃ r, adZ K (Zm.zo ⟨x, ss⟩) = r := ⟨_, rfl⟩
            have HRN : Hid (Named r.2) := Lib.hid (hr ▸ adZ_named HNE.out HKN.out)
            unfold AddOut at HAC
            rw [hr] at HAC HOZ
            obtain ⟨ev, K2⟩ := r
            simp only at HAC HOZ HRN
            clear hv hx ho hr HO
            by_cases hz : ev = 0
            · subst hz
              have HO2 : Hid (ixF (zos (l.take (k + 1))) K2 (zos (l.drop (k + 1))) = ixF [] [] (zos l)) := Lib.hid (by rw [HTK.out, ← HOZ.out, if_pos rfl])
              clear HOZ
              go_wp2_with (first
                | (go_at_call 30; (with_reducible refine (HN1.out _).mono ?_); rintro e w1 ⟨rfl, hb1⟩; have hb2 := hbn.trans (hb1.mono hsn); have hB1 := HBn.out.below hb1 HBn.out.lt; have HK1 := Lib.hid (HKn.out.below hb1); have hs2 := hb2.size; clear hb1)
                | (go_at_call 77; (with_reducible refine (HC1.out _ (HA.out.below hb2) hB1).mono ?_); rintro e w2 ⟨rfl, hb3⟩; have hb4 := hb2.trans (hb3.mono hs2); have HK2 := Lib.hid (HK1.out.below hb3); obtain ⟨q0, q1⟩ := (hB1.below hb3 hB1.lt).two; have hs4 := hb4.size; clear hb3 c0)
                | (go_at_call 100; (with_reducible refine (HAC.out _ HK2.out hb4 HNE.out).mono ?_); rintro e w3 ⟨rfl, hm3, hg3⟩; have hb6 := below_grown hb4 hg3 (fun i hi => by have := Option.some.inj hi; omega) hs4; have HK3 := Lib.hid hm3; clear hm3 hg3))
              go_roundw
              case rel => exact ⟨k + 1, K2, by go_num, by omega, hb6, Lib.hid (HK3.out.mono (by have := HFZ.out.1; rw [show (Zm.zo ⟨x, ss⟩).ps.length = ss.length from by simp [Zm.zo]]; omega)), HRN, HO2⟩
              case measure => simp [intOf]; omega
            · have HR : Hid ((ixL (zos l)).1 = ev) := Lib.hid (by have h := HOZ.out; rw [if_neg hz] at h; rw [HV.out, ← h])
              have hzq : (ev == 0) = false := by simp [hz]
              have HZ := Lib.hid hz
              clear HOZ hz
              go_wp2_with (first
                | (go_at_call 30; (with_reducible refine (HN1.out _).mono ?_); rintro e w1 ⟨rfl, hb1⟩; have hb2 := hbn.trans (hb1.mono hsn); have hB1 := HBn.out.below hb1 HBn.out.lt; have HK1 := Lib.hid (HKn.out.below hb1); have hs2 := hb2.size; clear hb1)
                | (go_at_call 77; (with_reducible refine (HC1.out _ (HA.out.below hb2) hB1).mono ?_); rintro e w2 ⟨rfl, hb3⟩; have hb4 := hb2.trans (hb3.mono hs2); have HK2 := Lib.hid (HK1.out.below hb3); obtain ⟨q0, q1⟩ := (hB1.below hb3 hB1.lt).two; have hs4 := hb4.size; clear hb3 c0)
                | (go_at_call 100; (with_reducible refine (HAC.out _ HK2.out hb4 HNE.out).mono ?_); rintro e w3 ⟨rfl, hm3, hg3⟩; have hb6 := below_grown hb4 hg3 (fun i hi => by have := Option.some.inj hi; omega) hs4; clear hm3 hg3))
              go_ret2
              exact IdxOut.bad HR.out HZ.out hb6
          · have HC1 := Lib.hid (fun W h1 h2 => containsF_is (some ⟨bk, off, none⟩) n k c l x (.slice P L c2) wr.heap.size W h1 HN.out (by omega) hc HM.out h2 true hx)
            rw [if_pos (by rw [zos_any, show (Zm.zo ⟨x, ss⟩).nm = x.data.toList from rfl, hx])] at ho
            have HR : Hid ((ixL (zos l)).1 = 10) := Lib.hid (by rw [HV.out, ← ho])
            clear hv hx HO ho
            go_wp2_with (first
              | (go_at_call 30; (with_reducible refine (HN1.out _).mono ?_); rintro e w1 ⟨rfl, hb1⟩; have hb2 := hbn.trans (hb1.mono hsn); have hB1 := HBn.out.below hb1 HBn.out.lt; have hs2 := hb2.size; clear hb1)
              | (go_at_call 77; (with_reducible refine (HC1.out _ (HA.out.below hb2) hB1).mono ?_); rintro e w2 ⟨rfl, hb3⟩; have hb4 := hb2.trans (hb3.mono hs2); clear hb3))
            go_ret2
            exact IdxOut.bad HR.out (by decide) hb4
      · obtain rfl : k = n := by omega
        have HR : Hid (ixL (zos l) = (0, K)) := Lib.hid (by
          rw [HV.out, ← HO.out, List.drop_eq_nil_of_le (by rw [HN.out]; exact Nat.le_refl _)]; rfl)
        clear HO
        go_wp2_with fail
        go_ret2
        unfold IdxOut
        rw [HR.out, if_pos rfl]
        exact ⟨_, _, rfl, HK.out, Nat.le_refl _, hb⟩
/-- The error of a list. -/
def ckZ (l : List Zo) : Int := (ixL l).1
set_option maxHeartbeats 1000000 in
theorem check_any (A : Option Addr) (n c : Nat) (l : List Zm) (w : World) (hA : ZsR w A l) (hn : l.length = n) (hc : n ≤ c) (hm : c ≤ maxLen) (hf : Fit l) :
    Calls Tryz.prog 32 #[.slice A n c] w fun e w' => e = .returned (.int .i64 (ckZ (zos l))) ∧ Below w.heap.size w w' := by
  have H := Lib.hid (index_any A n c l w hA hn hc hm hf)
  clear hA hn hf
  unfold IdxOut at H
  unfold ckZ
  obtain ⟨r, hr⟩ : ∃ r, ixL (zos l) = r := ⟨_, rfl⟩
  rw [hr] at H ⊢
  obtain ⟨ev, K⟩ := r
  simp only at H ⊢
  clear hr
  by_cases hz : ev = 0
  · subst hz
    simp only [if_true] at H
    go_enter Tryz.func32, Tryz.ntmps32
    go_wp2_with (go_at_call 71; (with_reducible refine H.out.mono ?_); rintro e w1 ⟨b1, n1, rfl, -, -, hb⟩)
    go_ret
    exact ⟨rfl, hb⟩
  · simp only [hz, if_false] at H
    go_enter Tryz.func32, Tryz.ntmps32
    go_wp2_with (go_at_call 71; (with_reducible refine H.out.mono ?_); rintro e w1 ⟨rfl, hb⟩)
    go_ret
    exact ⟨rfl, hb⟩
end Go.Proofs.YtpkmnefbofhjbaaGreat.Zn
