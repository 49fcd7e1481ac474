/- Walk: the law on totals. -/
import Derived.Test.YtigohhliblgdhaaIvTotM
import Derived.Test.YtigohhliblgdhaaIvLaw2
namespace Go.Proofs.Ytigohhliblgdhaa
open Go.RowKit

theorem big_case (n m : Nat) : (n ≤ 20 ∧ m ≤ 20) ∨ (¬ n ≤ 20) ∨ (n ≤ 20 ∧ ¬ m ≤ 20) := by omega
set_option maxRecDepth 100000 in
set_option maxHeartbeats 8000000 in
theorem walkIntervalTotals (A : Option Addr) (n c : Nat) (la : List Pd) (B : Option Addr) (m c' : Nat) (lb : List Pd) (w : World) (hl : la.length = n) (hc : n ≤ c) (hA : PR w A la) (hm : lb.length = m) (hc' : m ≤ c') (hB : PR w B lb) :
    Calls Try.prog 8 #[.slice A n c, .slice B m c'] w fun e w' => e = .returned (.bool true) ∧ Below w.heap.size w w' := by
  rcases big_case n m with ⟨h1, h2⟩ | h1 | ⟨h1, h2⟩
  · obtain ⟨i0, hi0, hz0, hz1, hz2⟩ := info_parts periodInfo
    have d1 : decide ((20 : Int) < (n : Int)) = false := decide_eq_false (by omega)
    have d2 : decide ((20 : Int) < (m : Int)) = false := decide_eq_false (by omega)
    have HA := Lib.hid hA; have HB := Lib.hid hB
    have hV := cmb_length fMinus la lb
    have hU := cmb_length fCommon la lb
    have hS := cmb_length fCover la []
    have hT := cmb_length fCover lb []
    rw [hl, hm] at hV hU
    rw [hl] at hS
    rw [hm] at hT
    have t1 := tot_parts la lb
    have t2 := tot_apart la lb
    have t3 := tot_both la lb
    have t4 := tot_minus la lb
    have t5 := tot_common la lb
    have b1 := len_le (cmb_spec (f := fCover) rfl (cmb fMinus la lb) []).1
    have b2 := len_le (cmb_spec (f := fCover) rfl (cmb fCommon la lb) []).1
    have F1 := Lib.hid (minus_any A B n m c c' la lb w hA hB hl hm hc hc' (by omega))
    have F2 := Lib.hid (fun W h h' => common_any A B n m c c' la lb W h h' hl hm hc hc' (by omega))
    have F3 := Lib.hid (fun W h => total_any A n c la W h hl hc (by omega))
    have F4 := Lib.hid (fun W h => cover_any A n c la W h hl hc (by omega))
    have F5 := Lib.hid (fun W h => cover_any B m c' lb W h hm hc' (by omega))
    rw [t1] at F3
    clear t1
    generalize cmb fMinus la lb = V at *
    generalize cmb fCommon la lb = U at *
    generalize cmb fCover la [] = S at *
    generalize cmb fCover lb [] = T at *
    have T1 := Lib.hid (fun A c W h hc => total_any A V.length c V W h rfl hc (by omega))
    have T2 := Lib.hid (fun A c W h hc => total_any A U.length c U W h rfl hc (by omega))
    have G1 := fun A B c c' W h h' hc hc' => common_any A B V.length U.length c c' V U W h h' rfl rfl hc hc' (by omega)
    rw [t2] at G1
    have G2 := fun A c k W h hk hc hk' => cover_any A k c (U ++ V) W h hk hc hk'
    rw [t3] at G2
    have G3 := fun A B c c' W h h' hc hc' => minus_any A B S.length T.length c c' S T W h h' rfl rfl hc hc' (by simp at hS hT; omega)
    rw [t4] at G3
    have G4 := fun A B c c' W h h' hc hc' => common_any A B T.length S.length c c' T S W h h' rfl rfl hc hc' (by simp at hS hT; omega)
    rw [t5] at G4
    have G1 := Lib.hid G1; have G2 := Lib.hid G2; have G3 := Lib.hid G3; have G4 := Lib.hid G4
    generalize len (cmb fCover V []) = x at *
    generalize len (cmb fCover U []) = y at *
    have hS' : S.length ≤ 40 := by simp at hS; omega
    have hT' : T.length ≤ 40 := by simp at hT; omega
    have hUV : (U ++ V).length = U.length + V.length := List.length_append
    have HUV := Lib.hid hUV
    clear hA hB hl hm t2 t3 t4 t5 hS hT hUV
    go_enter Try.func8, Try.ntmps8
    go_upto_region 6 with (first
      | (go_at_call 24; (with_reducible refine F1.out.mono ?_); rintro e w1 ⟨R1, r1, rfl, hr1, hR1, hb1⟩; have HR1 := Lib.hid hR1; have hs1 := hb1.size; clear hR1)
      | (go_at_call 26; (with_reducible refine (F2.out _ (HA.out.below hb1) (HB.out.below hb1)).mono ?_); rintro e w2 ⟨R2, r2, rfl, hr2, hR2, hb2⟩; have HR2 := Lib.hid hR2; have hb2' := hb1.trans (hb2.mono hs1); have hs2 := hb2'.size; have HR12 := Lib.hid (HR1.out.below hb2); have HA2 := Lib.hid (HA.out.below hb2'); have HB2 := Lib.hid (HB.out.below hb2'); have hb := Below.refl w2.heap.size w2; clear hR2 hb2)
      | (go_at_call 22; (with_reducible refine (sinceR (fun W h => F3.out W (HA2.out.below h)) hb).mono ?_); clear hb; rintro e wx ⟨rfl, hb⟩)
      | (go_at_call 22; (with_reducible refine (sinceR (fun W h => T1.out R1 r1 W (HR12.out.below h) hr1) hb).mono ?_); clear hb; rintro e wx ⟨rfl, hb⟩)
      | (go_at_call 22; (with_reducible refine (sinceR (fun W h => T2.out R2 r2 W (HR2.out.below h) hr2) hb).mono ?_); clear hb; rintro e wx ⟨rfl, hb⟩)
      | (go_at_call 26; (with_reducible refine (G1.out R1 R2 r1 r2 _ (HR12.out.below hb) (HR2.out.below hb) hr1 hr2).mono ?_); rintro e w4 ⟨R4, r4, rfl, hr4, hR4, hb4⟩; have hb4' := hb.trans (hb4.mono hb.size); clear hR4 hb4 hb))
    have hw4 : Below w.heap.size w w4 := hb2'.trans (hb4'.mono hs2)
    have hs4 := hw4.size
    have HR14 := Lib.hid (HR12.out.below hb4'); have HR24 := Lib.hid (HR2.out.below hb4'); have HA4 := Lib.hid (HA2.out.below hb4'); have HB4 := Lib.hid (HB2.out.below hb4')
    clear hb1 hs1 hb2' hs2 hb4'
    go_upto_region 9 with (first
      | (at_builtin; refine wpList_append_pr rfl (.tmp 40) (.tmp 41) 31 rfl w4.heap.size 23 i0 (.agg #[.int .i64 0, .int .i64 0]) 16 Try.underlying31 hi0 hz0 hz1 hz2 rfl (.slice none 0 0) 0 [] rfl (World.ownsRow_nil _ _ _ _) _ _ _ U rfl HR24.out rfl (by unfold maxLen; omega) (by omega) (Nat.le_refl _) ?_; intro v5 w5 hown5 hg5; have hb5 : Below w4.heap.size w4 w5 := (Below.refl _ _).grown hg5 (Nat.le_refl _) (fun g hg' => by exact absurd hg' (by simp [Value.ownBlock])); have hs5 := hb5.size)
      | (at_builtin; refine wpList_append_pr rfl (.tmp 43) (.tmp 44) 31 rfl w4.heap.size 23 i0 (.agg #[.int .i64 0, .int .i64 0]) 16 Try.underlying31 hi0 hz0 hz1 hz2 rfl v5 _ _ rfl hown5 _ _ _ V rfl (HR14.out.below hb5) rfl (by unfold maxLen; omega) (by omega) hs5 ?_; intro v6 w6 hown6 hg6; have hb6 : Below w4.heap.size w4 w6 := hb5.grown hg6 hs5 (fun g hg' => (World.ownsRow.lt hown5 g hg').1); have hs6 := hb6.size))
    rw [Nat.zero_add] at hown6
    obtain ⟨R7, r7, rfl, hr7, _, hR7⟩ := pr_own (l := U ++ V) (n := U.length + V.length) (by rw [cl_append]; exact hown6) HUV.out
    have HR7 := Lib.hid hR7
    have HR16 := Lib.hid (HR14.out.below hb6); have HR26 := Lib.hid (HR24.out.below hb6); have HA6 := Lib.hid (HA4.out.below hb6); have HB6 := Lib.hid (HB4.out.below hb6)
    have hw6 := hw4.trans (hb6.mono hs4)
    have hsw6 := hw6.size
    clear hown6 hg6 hown5 hg5 hb5 hb6 hs5 hs6 hR7 hw4 hs4
    go_wp2_with (first
      | (go_at_call 20; (with_reducible refine (F4.out _ HA6.out).mono ?_); rintro e w7 ⟨R8, r8, rfl, hr8, hR8, hb7⟩; have HR8 := Lib.hid hR8; have hs7 := hb7.size; clear hR8)
      | (go_at_call 20; (with_reducible refine (F5.out _ (HB6.out.below hb7)).mono ?_); rintro e w8 ⟨R9, r9, rfl, hr9, hR9, hb8⟩; have HR9 := Lib.hid hR9; have hb8' := hb7.trans (hb8.mono hs7); have hs8 := hb8'.size; have HR88 := Lib.hid (HR8.out.below hb8); clear hR9 hb8)
      | (go_at_call 20; (with_reducible refine (G2.out R7 r7 _ _ (HR7.out.below hb8') HUV.out hr7 (by omega)).mono ?_); rintro e w9 ⟨R10, r10, rfl, hr10, hR10, hb9⟩; have HR10 := Lib.hid hR10; have hb9' := hb8'.trans (hb9.mono hs8); have hs9 := hb9'.size; have HR89 := Lib.hid (HR88.out.below hb9); have HR99 := Lib.hid (HR9.out.below hb9); clear hR10 hb9)
      | (go_at_call 17; (with_reducible refine (same_yes R10 R8 _ _ _ S _ HR10.out HR89.out rfl (by omega) hr10 hr8).mono ?_); rintro e w10 ⟨rfl, hb10⟩; have hb10' := hb9'.trans (hb10.mono hs9); have hs10 := hb10'.size; have HR8a := Lib.hid (HR89.out.below hb10); have HR9a := Lib.hid (HR99.out.below hb10); clear hb10)
      | (go_at_call 24; (with_reducible refine (G3.out R8 R9 r8 r9 _ HR8a.out HR9a.out hr8 hr9).mono ?_); rintro e w11 ⟨R11, r11, rfl, hr11, hR11, hb11⟩; have HR11 := Lib.hid hR11; have hb11' := hb10'.trans (hb11.mono hs10); have hs11 := hb11'.size; have HR8b := Lib.hid (HR8a.out.below hb11); have HR9b := Lib.hid (HR9a.out.below hb11); clear hR11 hb11)
      | (go_at_call 17; (with_reducible refine (same_yes R11 R1 _ _ _ V _ HR11.out (HR16.out.below hb11') rfl (by omega) hr11 hr1).mono ?_); rintro e w12 ⟨rfl, hb12⟩; have hb12' := hb11'.trans (hb12.mono hs11); have hs12 := hb12'.size; have HR8c := Lib.hid (HR8b.out.below hb12); have HR9c := Lib.hid (HR9b.out.below hb12); clear hb12)
      | (go_at_call 26; (with_reducible refine (G4.out R9 R8 r9 r8 _ HR9c.out HR8c.out hr9 hr8).mono ?_); rintro e w13 ⟨R13, r13, rfl, hr13, hR13, hb13⟩; have HR13 := Lib.hid hR13; have hb13' := hb12'.trans (hb13.mono hs12); have hs13 := hb13'.size; clear hR13 hb13)
      | (go_at_call 17; (with_reducible refine (same_yes R13 R2 _ _ _ U _ HR13.out (HR26.out.below hb13') rfl (by omega) hr13 hr2).mono ?_); rintro e w14 ⟨rfl, hb14⟩; have hb14' := hb13'.trans (hb14.mono hs13); have hs14 := hb14'.size; clear hb14)
      | (go_at_call 15; (with_reducible refine (awake_any _).mono ?_); rintro e w15 ⟨rfl, hb15⟩))
    go_ret
    exact ⟨rfl, hw6.trans ((hb14'.trans (hb15.mono hs14)).mono hsw6)⟩
  · have d1 : decide ((20 : Int) < (n : Int)) = true := decide_eq_true (by omega)
    go_enter Try.func8, Try.ntmps8
    go_wp2_with (go_at_call 15; (with_reducible refine (awake_any _).mono ?_); rintro e w6 ⟨rfl, hb6⟩)
    go_ret
    exact ⟨rfl, hb6⟩
  · have d1 : decide ((20 : Int) < (n : Int)) = false := decide_eq_false (by omega)
    have d2 : decide ((20 : Int) < (m : Int)) = true := decide_eq_true (by omega)
    go_enter Try.func8, Try.ntmps8
    go_wp2_with (go_at_call 15; (with_reducible refine (awake_any _).mono ?_); rintro e w6 ⟨rfl, hb6⟩)
    go_ret
    exact ⟨rfl, hb6⟩
end Go.Proofs.Ytigohhliblgdhaa
