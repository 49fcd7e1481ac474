/- Walk: few. -/
import Derived.Test.YtflonakoagjmhaaZnRf
namespace Go.Proofs.Ytflonakoagjmhaa.Zn
open Go.RowKit Go.Lib Go.Proofs.Ytflonakoagjmhaa Go.Maps

def totZ (l : List Zm) : Nat := (l.map fun z => z.ps.length).sum
theorem totZ_nil : totZ [] = 0 := rfl
theorem totZ_app (a b : List Zm) : totZ (a ++ b) = totZ a + totZ b := by unfold totZ; rw [List.map_append, List.sum_append]
theorem totZ_next {l : List Zm} {i : Nat} (h : i < l.length) : totZ (l.take (i + 1)) = totZ (l.take i) + (l.getD i zm0).ps.length := by
  rw [List.take_succ_eq_append_getElem h, totZ_app, List.getD_eq_getElem?_getD, List.getElem?_eq_getElem h]
  simp [totZ]
theorem totZ_le (l : List Zm) (i : Nat) : totZ (l.take i) ≤ totZ l := by
  have h := totZ_app (l.take i) (l.drop i)
  rw [List.take_append_drop] at h; omega
theorem totZ_all (l : List Zm) : totZ (l.take l.length) = totZ l := by rw [List.take_length]
/-- At most 70 zones, at most 150 prefixes, no text of more than 100 bytes. -/
structure FewP (l : List Zm) : Prop where
  len : l.length ≤ 70
  tot : totZ l ≤ 150
  nm : ∀ z ∈ l, z.nm.size ≤ 100
  ps : ∀ z ∈ l, ∀ p ∈ z.ps, p.size ≤ 100
theorem tot_mem : ∀ {l : List Zm} {z : Zm}, z ∈ l → z.ps.length ≤ totZ l
  | [], _, h => by cases h
  | y :: t, z, h => by
    have e : totZ (y :: t) = y.ps.length + totZ t := by simp [totZ]
    rcases List.mem_cons.1 h with rfl | h
    · omega
    · have := tot_mem h; omega
theorem FewP.fit {l : List Zm} (h : FewP l) : Fit l := fun z hz => ⟨by have := tot_mem hz; have := h.tot; omega, by have := h.nm z hz; unfold maxLen; omega, fun p hp => by have := h.ps z hz p hp; unfold maxLen; omega⟩
theorem getD_mem' {l : List Zm} {i : Nat} (h : i < l.length) : l.getD i zm0 ∈ l := by
  rw [List.getD_eq_getElem?_getD, List.getElem?_eq_getElem h]; exact List.getElem_mem _
theorem getD_memS {l : List ByteArray} {i : Nat} (h : i < l.length) : l.getD i ⟨#[]⟩ ∈ l := by
  rw [List.getD_eq_getElem?_getD, List.getElem?_eq_getElem h]; exact List.getElem_mem _
theorem few_make {l : List Zm} (h1 : l.length ≤ 70) (h2 : totZ (l.take l.length) ≤ 150) (h3 : ∀ j, j < l.length → (l.getD j zm0).nm.size ≤ 100 ∧ ∀ k, k < (l.getD j zm0).ps.length → ((l.getD j zm0).ps.getD k ⟨#[]⟩).size ≤ 100) : FewP l := by
  refine ⟨h1, by rw [totZ_all] at h2; exact h2, fun z hz => ?_, fun z hz p hp => ?_⟩
  · obtain ⟨j, hj, rfl⟩ := List.mem_iff_getElem.1 hz
    have := (h3 j hj).1
    rwa [List.getD_eq_getElem?_getD, List.getElem?_eq_getElem hj] at this
  · obtain ⟨j, hj, rfl⟩ := List.mem_iff_getElem.1 hz
    obtain ⟨k, hk, rfl⟩ := List.mem_iff_getElem.1 hp
    have e : l.getD j zm0 = l[j] := by rw [List.getD_eq_getElem?_getD, List.getElem?_eq_getElem hj]; rfl
    have := (h3 j hj).2 k (by rw [e]; exact hk)
    rwa [e, List.getD_eq_getElem?_getD, List.getElem?_eq_getElem hk] at this
theorem bfalse {v : Bool} {P : Prop} (h : v = true ↔ P) (hp : ¬ P) : v = false := by
  cases v with
  | false => rfl
  | true => exact absurd (h.1 rfl) hp
set_option maxRecDepth 100000 in
set_option maxHeartbeats 8000000 in
theorem few_any (A : Option Addr) (n c : Nat) (l : List Zm) (w : World) (hA : ZsR w A l) (hn : l.length = n) (hc : n ≤ c) (hm : c ≤ maxLen) (hg : ∀ z ∈ l, z.ps.length ≤ 8796093021952 ∧ z.nm.size ≤ maxLen ∧ ∀ p ∈ z.ps, p.size ≤ maxLen) (v : Bool) (hv : v = true ↔ FewP l) :
    Calls Try.prog 9 #[.slice A n c] w fun e w' => e = .returned (.bool v) ∧ w' = w := by
  have HA := Lib.hid hA; have HN := Lib.hid hn; have HG := Lib.hid hg; have HV := Lib.hid hv
  unfold maxLen at hm
  clear hA hn hg hv
  go_enter Try.func9, Try.ntmps9
  go_wp2_with fail
  go_loopw [3, 4] (fun nv iv wr => ∃ i N : Nat, nv = .int .i64 N ∧ iv = .int .i64 i ∧ i ≤ n ∧ i ≤ 71 ∧ N ≤ 8796093022102 ∧ wr = w ∧ Hid (totZ (l.take i) = N) ∧ Hid (N ≤ 150 → ∀ j, j < i → (l.getD j zm0).nm.size ≤ 100 ∧ ∀ k, k < (l.getD j zm0).ps.length → ((l.getD j zm0).ps.getD k ⟨#[]⟩).size ≤ 100)) (fun _ iv _ => n - (intOf iv).toNat)
  case atStart => exact ⟨0, 0, rfl, rfl, by omega, by omega, by omega, rfl, Lib.hid rfl, Lib.hid fun _ j h => absurd h (Nat.not_lt_zero j)⟩
  case round =>
    obtain ⟨i, N, rfl, rfl, hi, hi71, hN9, rfl, HT, HO⟩ := hrel
    by_cases hgo : i < n ∧ i ≤ 70 ∧ N ≤ 150
    · obtain ⟨hlt, hi70, hN⟩ := hgo
      have hil : i < l.length := by rw [HN.out]; exact hlt
      have hlt' : (i : Int) < (n : Int) := by omega
      have hi70' : (i : Int) ≤ (70 : Int) := by omega
      have hN' : (N : Int) ≤ (150 : Int) := by omega
      have hi0 : (0 : Int) ≤ (i : Int) := by omega
      have t1 : decide (i ≤ 70) = true := decide_eq_true hi70
      have t2 : decide (N ≤ 150) = true := decide_eq_true hN
      obtain ⟨bk, off, P, c2, rfl, hbl, e0, e1, g2, g3, g4, g5⟩ := HA.out i hil
      have HTN := Lib.hid (totZ_next hil)
      have hgz := HG.out _ (getD_mem' hil)
      have HMZ := Lib.hid (getD_mem' hil)
      obtain ⟨z, hz⟩ : ∃ z, l.getD i zm0 = z := ⟨_, rfl⟩
      have HZ := Lib.hid hz
      rw [hz] at e0 e1 g2 g4 HTN hgz HMZ
      obtain ⟨x, ss⟩ := z
      simp only at e0 e1 g2 g4 HTN hgz
      obtain ⟨L, hL⟩ : ∃ L, ss.length = L := ⟨_, rfl⟩
      rw [hL] at e1 HTN hgz
      have HL := Lib.hid hL
      have hLb := hgz.1
      have hxb := hgz.2.1
      have HSB := Lib.hid hgz.2.2
      have HP := Lib.hid g4
      unfold maxLen at hxb
      clear g2 g3 g4 g5 hz hL hbl hil hgz
      have hw64 : IntKind.i64.wrap ((N : Int) + (L : Int)) = ((N + L : Nat) : Int) := by
        rw [IntWalk.i64_in _ (by omega)]; omega
      by_cases hx : 100 < x.size
      · have d1 : decide ((100 : Int) < (x.size : Int)) = true := decide_eq_true (by omega)
        have HR : Hid (v = false) := Lib.hid (bfalse HV.out fun h => by have := h.nm _ HMZ.out; simp only at this; omega)
        clear hx
        go_wp2_with fail
        go_ret
        exact ⟨ret_bool HR.out.symm, rfl⟩
      · have d1 : decide ((100 : Int) < (x.size : Int)) = false := decide_eq_false (by omega)
        have HX := Lib.hid hx
        clear hx
        go_wp2_with fail
        clear d1 t1 t2 hi70' hN' hlt'
        go_loopw [5] (fun kv w9 => ∃ k : Nat, kv = .int .i64 k ∧ k ≤ L ∧ w9 = wr ∧ Hid (∀ j, j < k → (ss.getD j ⟨#[]⟩).size ≤ 100)) (fun kv _ => L - (intOf kv).toNat)
        case atStart => exact ⟨0, rfl, by omega, rfl, Lib.hid fun j h => absurd h (Nat.not_lt_zero j)⟩
        case round =>
          obtain ⟨k, rfl, hk, rfl, HK⟩ := hrel
          have hk0 : (0 : Int) ≤ (k : Int) := by omega
          by_cases hkl : k < L
          · have hkl' : (k : Int) < (L : Int) := by omega
            by_cases hs : N + L ≤ 150
            · have s1 : ((N + L : Nat) : Int) ≤ (150 : Int) := by omega
              have s2 : (N : Int) + (L : Int) ≤ (150 : Int) := by omega
              have s3 : decide (N + L ≤ 150) = true := decide_eq_true hs
              have hks : k < ss.length := by rw [HL.out]; exact hkl
              obtain ⟨bp, op, rfl, hbp, gp⟩ := HP.out k hks
              have HMP := Lib.hid (getD_memS hks)
              obtain ⟨p, hp⟩ : ∃ p, ss.getD k ⟨#[]⟩ = p := ⟨_, rfl⟩
              rw [hp] at gp HMP
              have HPE := Lib.hid hp
              have hpm := HSB.out p HMP.out
              unfold maxLen at hpm
              clear hp hbp hks
              by_cases hp1 : 100 < p.size
              · have d2 : decide ((100 : Int) < (p.size : Int)) = true := decide_eq_true (by omega)
                have HR : Hid (v = false) := Lib.hid (bfalse HV.out fun h => by have := h.ps _ HMZ.out p HMP.out; omega)
                clear hp1
                go_wp2_with fail
                go_ret
                exact ⟨ret_bool HR.out.symm, rfl⟩
              · have d2 : decide ((100 : Int) < (p.size : Int)) = false := decide_eq_false (by omega)
                have HK2 : Hid (∀ j, j < k + 1 → (ss.getD j ⟨#[]⟩).size ≤ 100) := Lib.hid fun j h => by
                  rcases Nat.lt_or_ge j k with h | h
                  · exact HK.out j h
                  · obtain rfl : j = k := by omega
                    rw [HPE.out]; omega
                clear hp1
                go_wp2_with fail
                go_roundw
                case rel => exact ⟨k + 1, by go_num, by omega, by simp, HK2⟩
                case measure => simp [intOf]; omega
            · have s1 : ¬ ((N + L : Nat) : Int) ≤ (150 : Int) := by omega
              have s2 : decide ((N : Int) + (L : Int) ≤ (150 : Int)) = false := decide_eq_false (by omega)
              have s3 : decide (N + L ≤ 150) = false := decide_eq_false hs
              have HO2 : Hid (N + L ≤ 150 → ∀ j, j < i + 1 → (l.getD j zm0).nm.size ≤ 100 ∧ ∀ k, k < (l.getD j zm0).ps.length → ((l.getD j zm0).ps.getD k ⟨#[]⟩).size ≤ 100) := Lib.hid fun h => absurd h hs
              have HT2 : Hid (totZ (l.take (i + 1)) = N + L) := Lib.hid (by rw [HTN.out, HT.out])
              clear hs
              go_wp2_with fail
              go_roundw
              case rel => exact ⟨i + 1, N + L, by go_num, by go_num, by omega, by omega, by omega, by simp, HT2, HO2⟩
              case measure => simp [intOf]; omega
          · obtain rfl : k = L := by omega
            have HO2 : Hid (N + k ≤ 150 → ∀ j, j < i + 1 → (l.getD j zm0).nm.size ≤ 100 ∧ ∀ k, k < (l.getD j zm0).ps.length → ((l.getD j zm0).ps.getD k ⟨#[]⟩).size ≤ 100) := Lib.hid fun h j hj => by
              rcases Nat.lt_or_ge j i with h1 | h1
              · exact HO.out (by omega) j h1
              · obtain rfl : j = i := by omega
                rw [HZ.out]
                refine ⟨by have := HX.out; simp only; omega, fun k2 hk2 => HK.out k2 ?_⟩
                simp only at hk2
                rw [HL.out] at hk2; exact hk2
            have HT2 : Hid (totZ (l.take (i + 1)) = N + k) := Lib.hid (by rw [HTN.out, HT.out])
            go_wp2_with fail
            go_roundw
            case rel => exact ⟨i + 1, N + k, by go_num, by go_num, by omega, by omega, by omega, by simp, HT2, HO2⟩
            case measure => simp [intOf]; omega
    · by_cases h70 : n ≤ 70
      · have a1 : (n : Int) ≤ (70 : Int) := by omega
        have a2 : (i : Int) ≤ (70 : Int) := by omega
        have a3 : decide (i ≤ 70) = true := decide_eq_true (by omega)
        have a4 : decide (n ≤ 70) = true := decide_eq_true h70
        by_cases hN : N ≤ 150
        · have b1 : (N : Int) ≤ (150 : Int) := by omega
          have b2 : decide (N ≤ 150) = true := decide_eq_true hN
          obtain rfl : i = n := by
            rcases Nat.lt_or_ge i n with h | h
            · exact absurd ⟨h, by omega, hN⟩ hgo
            · omega
          have HR : Hid (v = true) := Lib.hid (HV.out.2 (few_make (by rw [HN.out]; exact h70) (by rw [HN.out, HT.out]; exact hN) (by rw [HN.out]; exact HO.out hN)))
          clear hgo
          go_wp2_with fail
          go_ret
          exact ⟨ret_bool HR.out.symm, rfl⟩
        · have b1 : decide ((N : Int) ≤ (150 : Int)) = false := decide_eq_false (by omega)
          have b2 : decide (N ≤ 150) = false := decide_eq_false hN
          have HR : Hid (v = false) := Lib.hid (bfalse HV.out fun h => by have := h.tot; have := totZ_le l i; have := HT.out; omega)
          rcases Nat.lt_or_ge i n with h | h
          · have c1 : (i : Int) < (n : Int) := by omega
            clear hgo hN
            go_wp2_with fail
            go_ret
            exact ⟨ret_bool HR.out.symm, rfl⟩
          · obtain rfl : i = n := by omega
            clear hgo hN
            go_wp2_with fail
            go_ret
            exact ⟨ret_bool HR.out.symm, rfl⟩
      · have a1 : decide ((n : Int) ≤ (70 : Int)) = false := decide_eq_false (by omega)
        have a4 : decide (n ≤ 70) = false := decide_eq_false h70
        have HR : Hid (v = false) := Lib.hid (bfalse HV.out fun h => by have := h.len; have := HN.out; omega)
        rcases Nat.lt_or_ge i n with h | h
        · have c1 : (i : Int) < (n : Int) := by omega
          rcases Nat.lt_or_ge 70 i with h2 | h2
          · have a2 : decide ((i : Int) ≤ (70 : Int)) = false := decide_eq_false (by omega)
            have a3 : decide (i ≤ 70) = false := decide_eq_false (by omega)
            clear hgo h70
            go_wp2_with fail
            go_ret
            exact ⟨ret_bool HR.out.symm, rfl⟩
          · have hN : ¬ N ≤ 150 := fun hN => hgo ⟨h, h2, hN⟩
            have a2 : (i : Int) ≤ (70 : Int) := by omega
            have a3 : decide (i ≤ 70) = true := decide_eq_true h2
            have b1 : decide ((N : Int) ≤ (150 : Int)) = false := decide_eq_false (by omega)
            have b2 : decide (N ≤ 150) = false := decide_eq_false hN
            clear hgo h70 hN
            go_wp2_with fail
            go_ret
            exact ⟨ret_bool HR.out.symm, rfl⟩
        · obtain rfl : i = n := by omega
          clear hgo h70
          go_wp2_with fail
          go_ret
          exact ⟨ret_bool HR.out.symm, rfl⟩
end Go.Proofs.Ytflonakoagjmhaa.Zn
