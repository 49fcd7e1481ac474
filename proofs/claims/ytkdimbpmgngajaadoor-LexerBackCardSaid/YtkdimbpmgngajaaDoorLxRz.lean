/- Walk of the reference: Scan. -/
import Derived.Test.YtkdimbpmgngajaaDoorLxRx
import Derived.Maps.AppendAt
namespace Go.Proofs.YtkdimbpmgngajaaDoor.Lx
open Go Go.Lib Go.RowKit Go.Proofs.YtkdimbpmgngajaaDoor Go.Maps

set_option maxRecDepth 100000 in
set_option maxHeartbeats 16000000 in
theorem refScan_any (s : ByteArray) (w : World) (hs : s.size ≤ maxLen) : Calls Tryd.prog 11 #[.string s] w (ScnO (scnP s.data.toList) w s) := by
  have hsl : s.data.toList.length = s.size := by simp
  have hs9 := hs
  unfold maxLen at hs9
  unfold scnP
  by_cases hbig : 65536 < s.size
  · have d0 : decide ((65536 : Int) < (s.size : Int)) = true := decide_eq_true (by omega)
    rw [if_pos (by rw [hsl]; exact hbig)]
    have HSL := Lib.hid hsl
    clear hs hbig hsl
    go_enter Tryd.func11, Tryd.ntmps11
    go_wp2_with fail
    go_ret3
    refine ⟨?_, Below.refl _ _⟩
    rw [HSL.out, Nat.sub_self]; rfl
  · have d0 : decide ((65536 : Int) < (s.size : Int)) = false := decide_eq_false (by omega)
    rw [if_neg (by rw [hsl]; exact hbig)]
    have hs6 : s.size ≤ 65536 := by omega
    obtain ⟨R, hR⟩ : ∃ R, scn s.data.toList = R := ⟨_, rfl⟩
    have HRR := Lib.hid hR
    rw [hR]
    obtain ⟨i0, hi0, hz0, hz1, hz2⟩ := info_parts tkInfo
    have HSL := Lib.hid hsl
    have HSK : ∀ a, a ≤ s.size → ∀ W, Calls Tryd.prog 16 #[.string s, .int .i64 (a : Int)] W fun e w' => ∃ p : Nat, e = .returned (.int .i64 p) ∧ p ≤ s.size ∧ s.data.toList.drop p = skp false (s.data.toList.drop a) ∧ w' = W := fun a ha W => (refSkip_any s W hs ha).mono (by
      rintro e w' ⟨rfl, rfl⟩
      have h1 := skp_from (l := s.data.toList) (a := a) (by rw [hsl]; exact ha)
      rw [hsl] at h1
      exact ⟨_, rfl, Nat.sub_le _ _, h1, rfl⟩)
    have HSK0 := Lib.hid (fun W => HSK 0 (Nat.zero_le _) W)
    have HSKM := Lib.hid HSK
    clear hR hbig hs HSK hsl
    go_enter Tryd.func11, Tryd.ntmps11
    go_wp2_with (go_at_call 16; refine (HSK0.out _).mono ?_; rintro e w1 ⟨p0, rfl, hp0, hd0, rfl⟩; have HD0 := Lib.hid hd0; clear hd0)
    go_loopw [6, 5] (fun iv ov wr => ∃ (p n : Nat) (u : Value) (r : Wd) (D : List Tk), iv = .int .i64 p ∧ u = ov ∧ p ≤ s.size ∧ Hid (s.data.toList.drop p = skp false r) ∧ Hid (wr.ownsRow w1.heap.size 30 4 u n (tkl s.size D)) ∧ Hid (D.length = n) ∧ n ≤ 65536 ∧ Hid (Below w1.heap.size w1 wr) ∧ Hid (puts D (scn r) = R) ∧ Hid (D.length + r.length ≤ s.size)) (fun iv _ _ => s.size - (RowKit.intOf iv).toNat)
    case atStart => exact ⟨p0, 0, _, s.data.toList, [], rfl, rfl, hp0, HD0, Lib.hid (World.ownsRow_nil _ _ _ _), Lib.hid rfl, by omega, Lib.hid (Below.refl _ _), Lib.hid (by rw [puts_nil]; exact HRR.out), Lib.hid (by rw [HSL.out]; simp)⟩
    case round =>
      obtain ⟨p, n, v, r, D, rfl, rfl, hp, HD, HO, HN, hn6, HB, HP, HL⟩ := hrel
      clear HD0
      by_cases hlt : p < s.size
      · have hlt' : (p : Int) < (s.size : Int) := by omega
        have hdr := drop_at hlt
        obtain ⟨b, hb⟩ : ∃ b, s[p] = b := ⟨_, rfl⟩
        obtain ⟨t, ht⟩ : ∃ t, s.data.toList.drop (p + 1) = t := ⟨_, rfl⟩
        rw [hb, ht] at hdr
        have hk : skp false r = b :: t := by rw [← HD.out, hdr]
        have hpt : p + (t.length + 1) = s.size := by
          have := congrArg List.length hdr
          rw [List.length_drop, HSL.out] at this
          simp at this; omega
        have HTK := Lib.hid (fun W => refToken_any s W hs6 hlt hdr)
        have hle := skp_le false r
        rw [hk] at hle
        clear hdr hb ht
        cases htk : tok (b :: t) with
        | error e =>
          rw [htk] at HTK
          have he := tok_err htk
          have d1 : ((e : Int) != 0) = true := by rw [bne, show ((e : Int) == 0) = false by rw [beq_eq_false_iff_ne]; omega]; rfl
          have HRE : Hid (R = .error ((b :: t).length, e)) := Lib.hid (by rw [← HP.out, scn_err hk (by simp) htk]; rfl)
          have HPT := Lib.hid hpt
          clear htk hk hpt hle
          go_wp2_with (go_at_call 23; (with_reducible refine (HTK.out _).mono ?_); rintro e w2 ⟨rfl, hb2⟩; have HB2 := Lib.hid (HB.out.trans (hb2.mono HB.out.size)); clear hb2)
          go_ret3
          rw [HRE.out]
          refine ⟨?_, HB2.out.trans (below_one _ _ |>.mono HB2.out.size)⟩
          rw [show s.size - (b :: t).length = p by have := HPT.out; simp; omega]; rfl
        | ok y =>
          obtain ⟨k, x, r2⟩ := y
          rw [htk] at HTK
          have HE := Lib.hid (scn_tok hk htk)
          have hltk := tok_lt htk
          have HLT := Lib.hid (show r2.length < r.length by omega)
          have hmp : r2.length < t.length + 1 := by simpa using hltk
          have HPT := Lib.hid hpt
          have HTK2 : Hid (∀ W, Calls Tryd.prog 23 #[.string s, .int .i64 p] W fun e w' => ∃ m : Nat, m + r2.length = s.size ∧ s.data.toList.drop m = r2 ∧ e = .returned (.tuple #[.agg #[.int .i64 k, .int .i64 (numV k x), .int .i64 p, .string ⟨⟨x⟩⟩], .int .i64 m, .int .i64 0]) ∧ Below W.heap.size W w') := Lib.hid (fun W => (HTK.out W).mono (by
            rintro e w' ⟨X, m, h1, h2, h3, rfl, hb⟩
            exact ⟨m, h1, h2, by rw [ba_mk h3], hb⟩))
          obtain ⟨nv, hnv⟩ : ∃ nv, numV k x = nv := ⟨_, rfl⟩
          rw [hnv] at HTK2
          have HNV := Lib.hid hnv
          clear HTK htk hk hpt hle hltk hnv
          go_upto_region 7 with (go_at_call 23; (with_reducible refine (HTK2.out _).mono ?_); rintro e w2 ⟨m, hm, hdm, rfl, hb2⟩; have HB2 := Lib.hid (HB.out.trans (hb2.mono HB.out.size)); have HO2 := Lib.hid (own_keepB HO.out hb2); have HM := Lib.hid (And.intro hm hdm); clear hb2 hdm)
          have hT5 : TkB (w2.alloc (.cells #[.int .i64 k, .int .i64 nv, .int .i64 p, .string ⟨⟨x⟩⟩] 30)) w2.heap.size k nv p ⟨⟨x⟩⟩ := TkB.new w2 _ _ _ _
          have HT5 := Lib.hid hT5
          have HB5 := Lib.hid (HB2.out.trans ((below_one w2 (.cells #[.int .i64 k, .int .i64 nv, .int .i64 p, .string ⟨⟨x⟩⟩] 30)).mono HB2.out.size))
          have HO5 := Lib.hid (HO2.out.alloc (.cells #[.int .i64 k, .int .i64 nv, .int .i64 p, .string ⟨⟨x⟩⟩] 30))
          clear hT5
          generalize hH : w2.heap.size = H at HT5
          generalize hW5 : World.alloc w2 _ = W5 at HT5 HB5 HO5
          clear hH hW5
          obtain ⟨⟨t0, t1, t2, t3⟩, u0, u1, u2, u3⟩ := HT5.out.cells
          have hnu : (nv : Int) = (numV k x : Nat) := by rw [HNV.out]
          have hpe : (p : Int) = ((s.size - (t.length + 1) : Nat) : Int) := by have := HPT.out; omega
          have HPE := Lib.hid (And.intro hnu hpe)
          have hm9 : m ≤ s.size := by omega
          have HSKm := Lib.hid (fun W => HSKM.out m hm9 W)
          clear hnu hpe
          go_wp2_with (first
            | (at_builtin; refine wpList_append_own_at _ rfl (.tmp 30) (.tmp 32) 23 rfl w1.heap.size 30 i0 _ 4 40 Tryd.underlying23 hi0 hz0 hz1 hz2 rfl (by decide) _ _ (tkl s.size D) rfl (HO5.out.alloc _) ⟨W5.heap.size, 0, none⟩ 1 1 (tkl s.size [⟨k, t.length + 1, x⟩]) rfl (by rw [tkl_len]; rfl) (tk_src (TkB.new W5 _ _ _ _) rfl HPE.out.1 HPE.out.2 rfl) (tkl_one _ _) (by unfold maxLen; omega) (by omega) (by have := HB5.out.size; simp; omega) ?_; intro v6 w6 g1 g2 _ g3; have HO6 := Lib.hid g1; have HG6 := Lib.hid g2; clear g1 g2 g3 t0 t1 t2 t3 u0 u1 u2 u3)
            | (go_at_call 16; refine (HSKm.out _).mono ?_; rintro e w7 ⟨p7, rfl, hp7, hd7, rfl⟩; have HD7 := Lib.hid hd7; clear hd7))
          go_roundw
          case rel =>
            refine ⟨p7, n + 1, _, r2, D ++ [⟨k, t.length + 1, x⟩], rfl, rfl, hp7, Lib.hid (by rw [HD7.out, HM.out.2]), Lib.hid (by rw [tkl_app]; exact HO6.out), Lib.hid (by rw [List.length_append, HN.out]; rfl), ?_, Lib.hid (below_grown (HB5.out.trans ((below_one W5 _).mono HB5.out.size)) HG6.out (fun j hj => (World.ownsRow.lt HO5.out j hj).1) (by have := HB5.out.size; simp; omega)), Lib.hid ?_, Lib.hid ?_⟩
            · have := HL.out; have := HN.out; have := HLT.out; omega
            · rw [← HP.out, HE.out, puts_put]; rfl
            · rw [List.length_append]; have := HL.out; have := HLT.out; simp; omega
          case measure =>
            have h1 := skp_le false r2
            have h2 := congrArg List.length HD7.out
            rw [HM.out.2, List.length_drop, HSL.out] at h2
            have h3 := HM.out.1
            have h4 := HPT.out
            simp [RowKit.intOf]; omega
      · obtain rfl : p = s.size := by omega
        have hd : decide ((s.size : Int) < (s.size : Int)) = false := decide_eq_false (by omega)
        have hk : skp false r = [] := by rw [← HD.out, List.drop_of_length_le (by rw [HSL.out]; exact Nat.le_refl _)]
        have HRE : Hid (R = .ok (D ++ [⟨0, 0, []⟩])) := Lib.hid (by rw [← HP.out, scn_end hk]; rfl)
        clear hk
        go_wp2_with (at_builtin; refine wpList_append_own_at _ rfl (.tmp 37) (.tmp 41) 23 rfl w1.heap.size 30 i0 _ 4 40 Tryd.underlying23 hi0 hz0 hz1 hz2 rfl (by decide) _ _ (tkl s.size D) rfl (HO.out.alloc _) ⟨wr.heap.size, 0, none⟩ 1 1 (tkl s.size [⟨0, 0, []⟩]) rfl (by rw [tkl_len]; rfl) (tk_src (TkB.new wr _ _ _ _) rfl rfl (by rw [Nat.sub_zero]) rfl) (tkl_one _ _) (by unfold maxLen; omega) (by omega) (by have := HB.out.size; simp; omega) ?_; intro v6 w6 g1 g2 _ g3; have HO6 := Lib.hid g1; have HG6 := Lib.hid g2; clear g1 g2 g3)
        go_ret3
        rw [HRE.out]
        refine ⟨v6, rfl, ?_, ?_⟩
        · rw [List.length_append, HN.out, tkl_app]; exact HO6.out
        · exact below_grown (HB.out.trans ((below_one wr _).mono HB.out.size)) HG6.out (fun j hj => (World.ownsRow.lt HO.out j hj).1) (by have := HB.out.size; simp; omega)
end Go.Proofs.YtkdimbpmgngajaaDoor.Lx
