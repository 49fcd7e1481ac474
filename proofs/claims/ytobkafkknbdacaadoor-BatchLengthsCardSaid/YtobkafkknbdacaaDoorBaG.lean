/- Walks: numbers are read back; the header of a file. -/
import Derived.Test.YtobkafkknbdacaaDoorBaX
namespace Go.Proofs.YtobkafkknbdacaaDoor.Va
open Go.RowKit

theorem lit_one (w : World) (x : Value) (e : TypeId) : ∀ j u, [x][j]? = some u → (w.alloc (.cells #[x] e)).cell? ((⟨w.heap.size, 0, none⟩ : Addr).add j) = some u := by
  intro j u hu
  have ha : ((⟨w.heap.size, 0, none⟩ : Addr).add j) = ⟨w.heap.size, j, none⟩ := by unfold Addr.add; split <;> simp_all
  rw [ha, cell_of_row _ _ _ _ _ (0, 0) (heap_alloc_new _ _)]
  simpa using hu
theorem own_base {w : World} {base m c : Nat} {A : Option Addr} {l : List Int} (h : Own w base (.slice A m c) l) : ∀ x, A = some x → base ≤ x.block := by
  intro x hx
  subst hx
  obtain ⟨⟨-, h2⟩, -⟩ := h
  rcases h2 with ⟨e, -⟩ | ⟨g, cap, cur, e, hb, -⟩
  · injection e with e1 e2 e3
    cases e1
  · injection e with e1 e2 e3
    injection e1 with e4
    subst e4
    exact hb
theorem listE_nil_len {zs : List Int} (h : zs = []) : (listE zs).length = 0 := by subst h; rfl
set_option maxRecDepth 100000 in
set_option maxHeartbeats 16000000 in
theorem getNums_back {w : World} {A : Option Addr} {n c N : Nat} {zs : List Int} (hA : Byt w A n c (listE zs)) (hz : ∀ z ∈ zs, -9223372036854775808 ≤ z ∧ z ≤ 9223372036854775807) (hN : zs.length = N) (hN2 : N ≤ 1000) :
    Calls Tryd.prog 37 #[.slice A n c, .int .i64 (N : Int)] w fun e w' => ∃ v, e = .returned (.tuple #[v, .int .i64 0]) ∧ w'.ownsRow w.heap.size 3 1 v N (zs.map (Value.int .i64)) ∧ Below w.heap.size w w' := by
  obtain ⟨i0, hi0, hz0, hz1, hz2⟩ := info_parts intInfo
  have HZ := Lib.hid hz; have HN := Lib.hid hN; have HA := Lib.hid hA
  have HNL := Lib.hid (listE_len hz)
  have hNi : (N : Int) ≤ 1000 := by omega
  have HN2 := Lib.hid hN2
  have HV0 : Hid (w.ownsRow w.heap.size 3 1 (.slice none 0 0) 0 ((zs.take 0).map (Value.int .i64))) := Lib.hid (World.ownsRow_nil _ _ _ _)
  clear hA hz hN
  go_enter Tryd.func37, Tryd.ntmps37
  go_wp2_with fail
  go_loopw [6, 7, 13] (fun v rv iv wr => ∃ (k : Nat) (v' rv' : Value) (A' : Option Addr) (n' c' : Nat), v' = v ∧ rv = .slice A' n' c' ∧ iv = .int .i64 k ∧ k ≤ N ∧ Hid (wr.ownsRow w.heap.size 3 1 v' k ((zs.take k).map (Value.int .i64))) ∧ Hid (Byt wr A' n' c' (listE (zs.drop k))) ∧ Hid (Below w.heap.size w wr)) (fun _ _ iv _ => N - (intOf iv).toNat)
  case atStart => exact ⟨0, _, .int .i64 0, A, n, c, rfl, rfl, rfl, by omega, HV0, Lib.hid (by rw [List.drop_zero]; exact HA.out), Lib.hid (Below.refl _ _)⟩
  case round =>
    obtain ⟨k, v, rv', A', n', c', rfl, rfl, rfl, hk, HV, HY, HB⟩ := hrel
    by_cases hlt : k < N
    · have hlt' : (k : Int) < (N : Int) := by omega
      obtain ⟨z, hzk⟩ : ∃ z, zs[k]? = some z := ⟨_, List.getElem?_eq_getElem (by rw [HN.out]; exact hlt)⟩
      have hr := HZ.out z (List.mem_of_getElem? hzk)
      have hdr : zs.drop k = z :: zs.drop (k + 1) := by
        obtain ⟨q, e⟩ := List.getElem?_eq_some_iff.1 hzk
        rw [List.drop_eq_getElem_cons q, e]
      have htk : zs.take (k + 1) = zs.take k ++ [z] := by
        obtain ⟨q, e⟩ := List.getElem?_eq_some_iff.1 hzk
        rw [← List.take_append_getElem q, e]
      have hnum : numR (listE (zs.drop k), 0) = (z, (listE (zs.drop (k + 1)), 0)) := by
        rw [hdr]
        exact numR_back z _ hr.1 hr.2
      have hcn := codNumber_any HY.out (by
        have h1 := HY.out.len
        have h2 := listE_len (l := zs.drop k) (fun y hy => HZ.out y (List.mem_of_mem_drop hy))
        rw [List.length_drop] at h2
        have := HN2.out; have := HN.out
        omega)
      rw [hnum] at hcn
      have HCN := Lib.hid hcn
      have HTK : Hid ((zs.take (k + 1)).map (Value.int .i64) = (zs.take k).map (Value.int .i64) ++ [.int .i64 z]) := Lib.hid (by rw [htk, List.map_append]; rfl)
      have HK9 : Hid (k ≤ 1000) := Lib.hid (by omega)
      clear hr hdr htk hnum hcn hzk
      go_wp2_with (first
        | (go_at_call 47; (with_reducible refine HCN.out.mono ?_); rintro e w2 ⟨v2, rfl, ho2, hb2⟩; obtain ⟨A2, m2, c2, rfl, hm2, y2⟩ := ho2.bytm; have HY2 := Lib.hid y2; have HA2 := Lib.hid (own_base ho2); have HV2 := Lib.hid (own_keep HV.out hb2); have HB2 := Lib.hid (HB.out.trans (hb2.mono HB.out.size)); clear ho2 hb2 hm2 y2)
        | (at_builtin; refine wpList_append_own _ rfl (.tmp 24) (.tmp 26) 67 rfl w.heap.size 3 i0 (.int .i64 0) 1 8 Tryd.underlying67 hi0 hz0 hz1 hz2 rfl (by decide) v k ((zs.take k).map (Value.int .i64)) rfl (HV2.out.alloc _) ⟨w2.heap.size, 0, none⟩ 1 1 [.int .i64 z] rfl rfl (lit_one _ _ _) (by simp [Value.oneCell']) (by have := HK9.out; unfold maxLen; omega) (by have := HK9.out; omega) (by have := HB2.out.size; simp; omega) ?_; intro v4 w4 z1 z2 _; have HV4 : Hid (w4.ownsRow w.heap.size 3 1 v4 (k + 1) ((zs.take (k + 1)).map (Value.int .i64))) := Lib.hid (by rw [HTK.out]; exact z1); have hg4 : Below w.heap.size w w4 := (HB2.out.alloc HB2.out.size _).grown z2 (by have := HB2.out.size; simp; omega) (fun g hg => (HV2.out.lt g hg).1); have HB4 := Lib.hid hg4; have HY4 : Hid (Byt w4 A2 m2 c2 (listE (zs.drop (k + 1)))) := Lib.hid ((HY2.out.below (below_lit w2 (.cells #[.int .i64 z] 3))).grown z2 (fun x hx _ hg => by have h1 := HA2.out x hx; have h2 := (HV.out.lt _ hg).2; omega)); clear z1 z2 hg4))
        
      go_roundw
      case rel => exact ⟨k + 1, v4, .int .i64 0, A2, m2, c2, rfl, rfl, by go_num, by omega, HV4, HY4, HB4⟩
      case measure => simp [intOf]; omega
    · obtain rfl : k = N := by omega
      have hn0 : n' = 0 := by
        rw [← HY.out.len, List.drop_eq_nil_of_le (by rw [HN.out]; exact Nat.le_refl _)]
        rfl
      subst hn0
      have htk : zs.take k = zs := List.take_of_length_le (by rw [HN.out]; exact Nat.le_refl _)
      have HTK := Lib.hid htk
      clear htk
      go_wp2_with fail
      go_ret2
      exact ⟨_, rfl, HTK.out ▸ HV.out, HB.out⟩
end Go.Proofs.YtobkafkknbdacaaDoor.Va
