/- Walk of the reference: whether a prefix occurs before. -/
import Derived.Test.YtpkmnefbofhjbaaGreatZnRm
import Derived.Deep.Quiet
namespace Go.Proofs.YtpkmnefbofhjbaaGreat.Zn
open Go.RowKit Go.Proofs.YtpkmnefbofhjbaaGreat Go.Maps

/-- The prefixes ahead of the prefix k of zone i. -/
def pre (l : List Zm) (i k : Nat) : List (Wd × Wd) := pairs (zos (l.take i)) ++ mk (l.getD i zm0).nm.data.toList (((l.getD i zm0).ps.take k).map fun p => p.data.toList)
theorem pre_zero (l : List Zm) (i : Nat) : pre l i 0 = pairs (zos (l.take i)) := by simp [pre, mk]
theorem pre_full (l : List Zm) (i : Nat) (h : i < l.length) : pre l i (l.getD i zm0).ps.length = pairs (zos (l.take (i + 1))) := by
  rw [zos_take h rfl, pairs_snoc]
  unfold pre
  rw [List.take_length]; rfl
theorem ps_take {ps : List ByteArray} {k : Nat} (h : k < ps.length) : (ps.take (k + 1)).map (fun p => p.data.toList) = (ps.take k).map (fun p => p.data.toList) ++ [(ps.getD k ⟨#[]⟩).data.toList] := by
  rw [List.take_succ_eq_append_getElem h, List.map_append, List.getD_eq_getElem?_getD, List.getElem?_eq_getElem h]; rfl
theorem pre_succ (l : List Zm) (i k : Nat) (hk : k < (l.getD i zm0).ps.length) : pre l i (k + 1) = pre l i k ++ [(((l.getD i zm0).ps.getD k ⟨#[]⟩).data.toList, (l.getD i zm0).nm.data.toList)] := by
  unfold pre
  rw [ps_take hk, mk_app, List.append_assoc]; rfl
theorem anyP_one (p q s : Wd) : anyP [(p, q)] s = (p == s) := by simp [anyP]
theorem pre_next {l : List Zm} {i k : Nat} {s : Wd} (hk : k < (l.getD i zm0).ps.length) : anyP (pre l i (k + 1)) s = (anyP (pre l i k) s || (((l.getD i zm0).ps.getD k ⟨#[]⟩).data.toList == s)) := by
  rw [pre_succ l i k hk, anyP_app, anyP_one]
/-- More is ahead of a later place. -/
theorem pre_mono {l : List Zm} {i k a b : Nat} {s : Wd} (hi : i < l.length) (h : a < i ∧ b ≤ (l.getD a zm0).ps.length ∨ a = i ∧ b ≤ k) (ht : anyP (pre l a b) s = true) : anyP (pre l i k) s = true := by
  have hmk : ∀ (a b c : Nat), b ≤ c → anyP (pre l a b) s = true → anyP (pre l a c) s = true := by
    intro a b c hbc h
    unfold pre at *
    rw [anyP_app, Bool.or_eq_true] at h ⊢
    rcases h with h | h
    · exact .inl h
    · refine .inr ?_
      rw [anyP_mk, List.any_eq_true] at h ⊢
      obtain ⟨x, hx, he⟩ := h
      refine ⟨x, ?_, he⟩
      rw [List.mem_map] at hx ⊢
      obtain ⟨p, hp, rfl⟩ := hx
      exact ⟨p, (List.take_subset_take_left _ hbc) hp, rfl⟩
  have hz : ∀ (j i : Nat), j ≤ i → anyP (pairs (zos (l.take j))) s = true → anyP (pairs (zos (l.take i))) s = true := by
    intro j i hji h
    obtain ⟨t, ht⟩ : ∃ t, l.take i = l.take j ++ t := ⟨(l.take i).drop j, by have h9 := (List.take_append_drop j (l.take i)).symm; rwa [List.take_take, Nat.min_eq_left hji] at h9⟩
    rw [ht]
    unfold zos at *
    rw [List.map_append, pairs_app, anyP_app, h]; rfl
  rcases h with ⟨h1, h2⟩ | ⟨rfl, h2⟩
  · have h3 := hmk a b _ h2 ht
    rw [pre_full l a (by omega)] at h3
    have h4 := hz (a + 1) i (by omega) h3
    unfold pre
    rw [anyP_app, h4]; rfl
  · exact hmk a b k h2 ht
set_option maxRecDepth 100000 in
set_option maxHeartbeats 8000000 in
theorem earlier_any (A : Option Addr) (n c i k : Nat) (l : List Zm) (p : ByteArray) (w : World) (hA : ZsR w A l) (hn : l.length = n) (hc : n ≤ c) (hm : c ≤ maxLen) (hi : i < n) (hk : k < (l.getD i zm0).ps.length) (hp : (l.getD i zm0).ps.getD k ⟨#[]⟩ = p) :
    Calls Tryz.prog 109 #[.slice A n c, .int .i64 i, .int .i64 k] w fun e w' => e = .returned (.bool (anyP (pre l i k) p.data.toList)) ∧ Below w.heap.size w w' := by
  unfold maxLen at hm
  have HA := Lib.hid hA; have HN := Lib.hid hn
  obtain ⟨bk, off, P, c2, rfl, hbl, g0, g1, g2, g3, g4, g5⟩ := hA i (by omega)
  obtain ⟨bp, offp, rfl, hbp, gp⟩ := g4 k hk
  obtain ⟨L, hL⟩ : ∃ L, (l.getD i zm0).ps.length = L := ⟨_, rfl⟩
  rw [hL] at g1 g2 hk
  rw [hp] at gp
  have HI := Lib.hid (show w.cell? ⟨bk, off + i * 2 + 1, none⟩ = some (.slice (some ⟨bp, offp, none⟩) L c2) ∧ w.cell? ⟨bp, offp + k, none⟩ = some (.string p) ∧ bk < w.heap.size ∧ bp < w.heap.size from ⟨g1, gp, hbl, hbp⟩)
  have HL := Lib.hid hL
  have hLm : L ≤ 9223372036854775807 := by unfold maxLen at g3; omega
  have hkm : (k : Int) < (L : Int) := by omega
  have hk0 : (0 : Int) ≤ (k : Int) := by omega
  have hin : (i : Int) < (n : Int) := by omega
  have hi0 : (0 : Int) ≤ (i : Int) := by omega
  clear hA hn g0 g1 g3 g4 g5 gp hbl hbp hL hp
  obtain ⟨v, hv⟩ : ∃ v, anyP (pre l i k) p.data.toList = v := ⟨_, rfl⟩
  rw [hv]
  have HV := Lib.hid hv
  clear hv
  go_enter Tryz.func109, Tryz.ntmps109
  go_wp2_with fail
  go_loopw [7] (fun av wr => ∃ a : Nat, av = .int .i64 a ∧ a ≤ i + 1 ∧ Below w.heap.size w wr ∧ Hid (a ≤ i → anyP (pairs (zos (l.take a))) p.data.toList = false) ∧ Hid (i < a → v = false)) (fun av _ => i + 1 - (intOf av).toNat)
  case atStart => exact ⟨0, rfl, by omega, Below.refl _ _, Lib.hid fun _ => rfl, Lib.hid fun h => absurd h (Nat.not_lt_zero _)⟩
  case round =>
    obtain ⟨a, rfl, ha, hb, HO, HE⟩ := hrel
    by_cases hai : a ≤ i
    · have hai' : (a : Int) ≤ (i : Int) := by omega
      have ha0 : (0 : Int) ≤ (a : Int) := by omega
      have han : (a : Int) < (n : Int) := by omega
      have hal : a < l.length := by rw [HN.out]; omega
      obtain ⟨bk', off', Q, c3, he, hbl, -, g1, g2, g3, g4, g5⟩ := HA.out a hal
      obtain ⟨rfl, rfl⟩ : bk = bk' ∧ off = off' := by injection he with he; injection he with h1 h2; exact ⟨h1, h2⟩
      obtain ⟨M, hM⟩ : ∃ M, (l.getD a zm0).ps.length = M := ⟨_, rfl⟩
      rw [hM] at g1
      have HM := Lib.hid hM
      have HQ := Lib.hid g4
      have HG := Lib.hid (show w.cell? ⟨bk, off + a * 2 + 1, none⟩ = some (.slice Q M c3) from g1)
      have e1 := (hb.cell (p := ⟨bk, off + a * 2 + 1, none⟩) HI.out.2.2.1).trans g1
      have hMm : M ≤ 9223372036854775807 := by unfold maxLen at g3; omega
      have HH : Hid (anyP (pre l a 0) p.data.toList = false) := Lib.hid (by rw [pre_zero]; exact HO.out hai)
      clear g1 g2 g3 g4 g5 he hM hbl HO HE
      go_wp2_with fail
      clear e1
      go_loopw [8] (fun bv w9 => ∃ b : Nat, bv = .int .i64 b ∧ b ≤ M ∧ (a = i → b ≤ k) ∧ Below w.heap.size w w9 ∧ Hid (anyP (pre l a b) p.data.toList = false)) (fun bv _ => M - (intOf bv).toNat)
      case atStart => exact ⟨0, rfl, by omega, fun _ => Nat.zero_le _, hb, HH⟩
      case round =>
        obtain ⟨b, rfl, hbM, hbk, hb9, HB⟩ := hrel
        have e1 := (hb9.cell (p := ⟨bk, off + a * 2 + 1, none⟩) HI.out.2.2.1).trans HG.out
        by_cases hlt : b < M
        · have hlt' : (b : Int) < (M : Int) := by omega
          have hb0 : (0 : Int) ≤ (b : Int) := by omega
          by_cases hstop : a = i ∧ k ≤ b
          · obtain ⟨rfl, hkb⟩ := hstop
            have hs1 : decide ((k : Int) ≤ (b : Int)) = true := decide_eq_true (by omega)
            have hs2 : decide (k ≤ b) = true := decide_eq_true hkb
            have hs0 : ((a : Int) == (a : Int)) = true := by simp
            have HF : Hid (v = false) := Lib.hid (by
              have : b = k := by have := hbk rfl; omega
              rw [← HV.out, ← this]; exact HB.out)
            go_wp2_with fail
            go_roundw
            case rel => exact ⟨a + 1, by go_num, by omega, hb9, Lib.hid (fun h => by omega), Lib.hid fun _ => HF.out⟩
            case measure => simp [intOf] <;> omega
          · obtain ⟨q, hq⟩ : ∃ q, (l.getD a zm0).ps.getD b ⟨#[]⟩ = q := ⟨_, rfl⟩
            obtain ⟨bq, offq, rfl, hbq, gq⟩ := HQ.out b (by rw [HM.out]; exact hlt)
            rw [hq] at gq
            have e2 := (hb9.cell (p := ⟨bq, offq + b, none⟩) hbq).trans gq
            have e3 := (hb9.cell (p := ⟨bk, off + i * 2 + 1, none⟩) HI.out.2.2.1).trans HI.out.1
            have e4 := (hb9.cell (p := ⟨bp, offp + k, none⟩) HI.out.2.2.2).trans HI.out.2.1
            have hnx := pre_next (l := l) (i := a) (k := b) (s := p.data.toList) (by rw [HM.out]; exact hlt)
            rw [HB.out, hq, Bool.false_or] at hnx
            have hab : a = i → b < k := fun h => by
              rcases Nat.lt_or_ge b k with h2 | h2
              · exact h2
              · exact absurd ⟨h, h2⟩ hstop
            have HAB := Lib.hid hab
            obtain ⟨x, hx⟩ : ∃ x, (q.toList == p.toList) = x := ⟨_, rfl⟩
            rw [← sEq, hx] at hnx
            have HX := Lib.hid hnx
            have hstep : Hid (x = true → v = true) := Lib.hid (fun hxt => by
              rw [← HV.out]
              refine pre_mono (a := a) (b := b + 1) (by rw [HN.out]; exact hi) ?_ (by rw [HX.out]; exact hxt)
              rcases Nat.lt_or_ge a i with h | h
              · exact .inl ⟨h, by rw [HM.out]; exact hlt⟩
              · exact .inr ⟨by omega, by have := HAB.out (by omega); omega⟩)
            clear gq hbq hq hnx hab
            have hcase : (((a : Int) == (i : Int)) = false) ∨ (((a : Int) == (i : Int)) = true ∧ decide ((k : Int) ≤ (b : Int)) = false ∧ decide (k ≤ b) = false) := by
              rcases Nat.lt_or_ge a i with h | h
              · exact .inl (by rw [beq_eq_false_iff_ne]; omega)
              · have := HAB.out (by omega)
                exact .inr ⟨by rw [beq_iff_eq]; omega, decide_eq_false (by omega), decide_eq_false (by omega)⟩
            clear hstop
            cases x
            · have HN2 : Hid (anyP (pre l a (b + 1)) p.data.toList = false) := HX
              rcases hcase with hc1 | ⟨hc1, hc2, hc3⟩
              all_goals
                go_wp2_with (first | go_region)
                go_roundw
                case rel => exact ⟨b + 1, by go_num, by omega, fun h => by have := HAB.out h; omega, by first | exact hb9 | exact below_drewN hb9 _, HN2⟩
                case measure => simp [intOf] <;> omega
            · have HT : Hid (v = true) := Lib.hid (hstep.out rfl)
              rcases hcase with hc1 | ⟨hc1, hc2, hc3⟩
              all_goals
                go_wp2_with (first | go_region)
                go_ret
                exact ⟨ret_bool HT.out.symm, by first | exact hb9 | exact below_drewN hb9 _⟩
        · obtain rfl : b = M := by omega
          have HF2 : Hid (anyP (pairs (zos (l.take (a + 1)))) p.data.toList = false) := Lib.hid (by rw [← pre_full l a (by rw [HN.out]; omega), HM.out]; exact HB.out)
          have hne : a ≠ i := fun h => by
            subst h
            have := hbk rfl
            have := HL.out
            have := HM.out
            omega
          go_wp2_with fail
          go_roundw
          case rel => exact ⟨a + 1, by go_num, by omega, hb9, Lib.hid (fun _ => HF2.out), Lib.hid fun h => by omega⟩
          case measure => simp [intOf] <;> omega
    · have HF : Hid (v = false) := Lib.hid (HE.out (by omega))
      have hai' : decide ((a : Int) ≤ (i : Int)) = false := decide_eq_false (by omega)
      go_wp2_with fail
      go_ret
      exact ⟨ret_bool HF.out.symm, hb⟩
end Go.Proofs.YtpkmnefbofhjbaaGreat.Zn
