/- Walks: the reader's text and list. -/
import Derived.Test.YtlcjpnagjiemiaaRows
import Derived.Test.YtlcjpnagjiemiaaCdT
namespace Go.Proofs.Ytlcjpnagjiemiaa
open Go.RowKit

theorem byt_dropm {w : World} {A : Option Addr} {n c : Nat} {l : List Int} (h : Byt w A n c l) (k : Nat) (hk : k ≤ n) : Byt w (Option.map (fun x => x.add k) A) (n - k) (c - k) (l.drop k) := by
  have hl := h.len
  by_cases h0 : n - k = 0
  · rw [h0, List.drop_eq_nil_of_le (by omega)]
    refine byt_none (by have := h.max; omega) (fun hA => ?_)
    cases A with
    | none => have := h.nil0 rfl; omega
    | some x => cases hA
  · obtain ⟨b, off, x, rfl, _⟩ := h.at (k := 0) (by omega)
    rw [Option.map_some, add_none]
    exact byt_drop h k hk
set_option maxHeartbeats 4000000 in
theorem text_err {w0 W : World} {g : Nat} {l : List Int} {er : Int} (h : Rd w0 W g l er) (he : (lenR (l, er)).2.2 ≠ 0) :
    Calls Try.prog 38 #[.pointer (some ⟨g, 0, none⟩)] W (Steps w0 W g (.string ByteArray.empty) ([], (lenR (l, er)).2.2)) := by
  have HN := Lib.hid (length_any h)
  obtain ⟨⟨V, R, e1⟩, hS⟩ : ∃ S, lenR (l, er) = S := ⟨_, rfl⟩
  rw [hS] at HN he ⊢
  simp only at he ⊢
  have h1 : (e1 == 0) = false := by simp [he]
  have h2 : (e1 != 0) = true := by simp [he]
  have HE := Lib.hid he
  clear h hS he
  go_enter Try.func38, Try.ntmps38
  go_wp2_with (go_at_call 49; refine HN.out.mono ?_; rintro e w1 ⟨rfl, hr, hgr⟩; obtain ⟨A1, n1, c1, k0, k1, f0, f1⟩ := hr.cells; have HR := Lib.hid hr; clear hr)
  go_ret
  obtain ⟨hg, A, n, c, ys, hB, hA, _, hb⟩ := HR.out
  exact ⟨rfl, ⟨hg, A, n, c, ys, hB, hA, fun h => absurd h HE.out, hb⟩, hgr⟩
set_option maxHeartbeats 4000000 in
theorem text_short {w0 W : World} {g sz : Nat} {l R : List Int} {er : Int} (h : Rd w0 W g l er) (hS : lenR (l, er) = ((sz : Int), (R, 0))) (hlt : R.length < sz) :
    Calls Try.prog 38 #[.pointer (some ⟨g, 0, none⟩)] W (Steps w0 W g (.string ByteArray.empty) ([], 2)) := by
  have HN := Lib.hid (length_any h)
  rw [hS] at HN
  have HLT := Lib.hid hlt
  clear h hS hlt
  go_enter Try.func38, Try.ntmps38
  go_wp2_with (go_at_call 49; refine HN.out.mono ?_; rintro e w1 ⟨rfl, hr, hgr⟩; have HR := Lib.hid (hr.err 2 (by decide)); obtain ⟨hg, A, n, c, ys, hB, hA, hys, hb⟩ := hr; obtain rfl := hys rfl; have k0 := hB.cell0; have k1 := hB.cell1; have f0 := hB.fr0; have f1 := hB.fr1; have hcmp : (n : Int) < (sz : Int) := (by have h1 := HLT.out; have h2 := hA.len; omega); clear hg hB hA hb hys)
  go_ret
  exact ⟨rfl, HR.out, grown_trans hgr (grown_set _ _ _ _)⟩
set_option maxHeartbeats 4000000 in
theorem text_ok {w0 W : World} {g sz : Nat} {l R : List Int} {er : Int} (h : Rd w0 W g l er) (hS : lenR (l, er) = ((sz : Int), (R, 0))) (hle : sz ≤ R.length) (hsz : sz ≤ 1048576) :
    Calls Try.prog 38 #[.pointer (some ⟨g, 0, none⟩)] W (Steps w0 W g (.string (strOfNums (R.take sz))) (R.drop sz, 0)) := by
  have HN := Lib.hid (length_any h)
  rw [hS] at HN
  have HLE := Lib.hid hle
  have hszi : (sz : Int) ≤ 1048576 := by omega
  clear h hS hle
  go_enter Try.func38, Try.ntmps38
  go_wp2_with (go_at_call 49; refine HN.out.mono ?_; rintro e w1 ⟨rfl, hr, hgr⟩; obtain ⟨hg, A, n, c, ys, hB, hA, hys, hb⟩ := hr; obtain rfl := hys rfl; have k0 := hB.cell0; have k1 := hB.cell1; have f0 := hB.fr0; have f1 := hB.fr1; have hcmp : ¬ (n : Int) < (sz : Int) := (by have h1 := HLE.out; have h2 := hA.len; omega); have hszn : sz ≤ n := (by have h1 := HLE.out; have h2 := hA.len; omega); have hcap := hA.cap; have hcv := byt_conv ((byt_take hA sz hszn).below (hg ▸ hb)); have HB := Lib.hid hB; have HA := Lib.hid hA; have HL := Lib.hid hb; have HG := Lib.hid hg; have HMX := Lib.hid hA.max; clear hg hB hA hb hys)
  · rename_i hcs
    go_ret
    refine ⟨rfl, ⟨HG.out, _, _, _, ys.drop sz, HB.out.set0 _, ?_, fun _ => rfl, below_set HL.out _⟩, grown_trans hgr (grown_set _ _ _ _)⟩
    have hz : n - sz = 0 := by omega
    have := HA.out.len
    rw [hz, List.drop_eq_nil_of_le (by omega)]
    exact byt_none (by unfold maxLen; omega) (fun _ => rfl)
  · go_ret
    exact ⟨rfl, ⟨HG.out, _, _, _, ys.drop sz, HB.out.set0 _, byt_dropm HA.out sz hszn, fun _ => rfl, below_set HL.out _⟩, grown_trans hgr (grown_set _ _ _ _)⟩
theorem text_any {w0 W : World} {g : Nat} {l : List Int} {er : Int} (h : Rd w0 W g l er) :
    Calls Try.prog 38 #[.pointer (some ⟨g, 0, none⟩)] W (Steps w0 W g (.string (txtR (l, er)).1) (txtR (l, er)).2) := by
  by_cases he : (lenR (l, er)).2.2 = 0
  · obtain ⟨h1, h2, _⟩ := lenR_ok he
    obtain ⟨sz, hsz⟩ : ∃ sz : Nat, (lenR (l, er)).1 = (sz : Int) := ⟨(lenR (l, er)).1.toNat, by omega⟩
    have hS : lenR (l, er) = ((sz : Int), ((lenR (l, er)).2.1, 0)) := Prod.ext hsz (Prod.ext rfl he)
    by_cases hlt : (lenR (l, er)).2.1.length < sz
    · have : txtR (l, er) = (ByteArray.empty, ([], 2)) := by rw [txtR, if_pos he, if_pos (by omega)]
      rw [this]
      exact text_short h hS hlt
    · have : txtR (l, er) = (strOfNums ((lenR (l, er)).2.1.take sz), ((lenR (l, er)).2.1.drop sz, 0)) := by rw [txtR, if_pos he, if_neg (by omega), hsz, Int.toNat_natCast]
      rw [this]
      exact text_ok h hS (by omega) (by omega)
  · have : txtR (l, er) = (ByteArray.empty, ([], (lenR (l, er)).2.2)) := by rw [txtR, if_neg he]
    rw [this]
    exact text_err h he

theorem Rd.grow {w0 W W' : World} {g : Nat} {l : List Int} {er : Int} {row : Option Nat} (h : Rd w0 W g l er) (hg : W.grownBy W' row) (hr : ∀ k, row = some k → g < k) (hgs : g < W.heap.size) : Rd w0 W' g l er := by
  obtain ⟨h0, A, n, c, ys, hB, hA, hys, hb⟩ := h
  refine ⟨h0, A, n, c, ys, ?_, hA, hys, hb.trans ⟨hg.os, hg.tape, hg.output, hg.size, fun k hk => hg.block k (by omega) (fun e => by have := hr k e.symm; omega)⟩⟩
  unfold RdB at hB ⊢
  rw [hg.block g hgs (fun e => by have := hr g e.symm; omega)]
  exact hB
theorem Rd.any {w0 W : World} {g : Nat} {l l' : List Int} {er : Int} (h : Rd w0 W g l er) (her : er ≠ 0) : Rd w0 W g l' er := by
  obtain ⟨h0, A, n, c, ys, hB, hA, hys, hb⟩ := h
  exact ⟨h0, A, n, c, ys, hB, hA, fun h => absurd h her, hb⟩
theorem intInfo : (Try.prog.info? 3).map (fun i => (i.zero, i.size, i.bytes)) = some (some (.int .i64 0), 1, 8) := by kernel_rfl
/-- The call's own numbers. -/
def OwnI (w : World) (base : Nat) (v : Value) (l : List Int) : Prop := w.ownsRow base 3 1 v l.length (l.map (Value.int .i64))
/-- What the list's reader gives. -/
def ListP (w0 W : World) (g : Nat) (r : List Int × St) (e : Ending) (W' : World) : Prop :=
  ∃ v zs, e = .returned v ∧ OwnI W' (g + 1) v zs ∧ (r.2.2 = 0 → zs = r.1) ∧ Rd w0 W' g r.2.1 r.2.2
set_option maxHeartbeats 4000000 in
theorem numbers_any {w0 W : World} {g : Nat} {l : List Int} {er : Int} (h : Rd w0 W g l er) (hgW : g < W.heap.size) :
    Calls Try.prog 35 #[.pointer (some ⟨g, 0, none⟩)] W (ListP w0 W g (numsR (l, er))) := by
  obtain ⟨i0, hi0, hz0, hz1, hz2⟩ := info_parts intInfo
  have HN := Lib.hid (length_any h)
  have hS : numsR (l, er) = if (lenR (l, er)).2.2 = 0 then many (lenR (l, er)).1.toNat (lenR (l, er)).2.1 else ([], ([], (lenR (l, er)).2.2)) := rfl
  have hok := lenR_ok (s := (l, er))
  obtain ⟨⟨V, R, e1⟩, hL⟩ : ∃ S, lenR (l, er) = S := ⟨_, rfl⟩
  rw [hL] at HN hS hok
  simp only at HN hS hok
  rw [hS]
  clear hL hS h
  by_cases he : e1 = 0
  · subst he
    obtain ⟨h1, h2, _⟩ := hok rfl
    obtain ⟨N, rfl⟩ := Int.eq_ofNat_of_zero_le h1
    rw [if_pos rfl, Int.toNat_natCast]
    have hNi : (N : Int) ≤ 1048576 := h2
    clear hok h1
    go_enter Try.func35, Try.ntmps35
    go_wp2_with (go_at_call 49; refine HN.out.mono ?_; rintro e w1 ⟨rfl, hr, hgr⟩)
    have HR0 := Lib.hid hr
    go_loopw [4, 5] (fun v i wr => ∃ (k : Nat) (zs S : List Int) (e2 : Int), i = .int .i64 (k : Int) ∧ k ≤ N ∧ OwnI wr (g + 1) v zs ∧ zs.length = k ∧ Rd w0 wr g S e2 ∧ g < wr.heap.size ∧
      Hid ((e2 = 0 → pre zs (many (N - k) S) = many N R) ∧ (e2 ≠ 0 → (many N R).2.2 = e2 ∧ 0 < k))) (fun _ i _ => N - (intOf i).toNat)
    case atStart => exact ⟨0, [], R, 0, rfl, by omega, World.ownsRow_nil _ _ _ _, rfl, hr, Nat.lt_of_lt_of_le hgW hgr.size, ⟨fun _ => pre_nil N R, fun h => absurd rfl h⟩⟩
    case round =>
      obtain ⟨k, zs, S, e2, rfl, hk, ho, hzl, hrd, hgs, hrel⟩ := hrel
      obtain ⟨A1, n1, c1, k0, k1, f0, f1⟩ := hrd.cells
      by_cases hlt : k < N
      · have hlt' : (k : Int) < (N : Int) := by omega
        by_cases h0 : e2 = 0
        · subst h0
          have HNN := Lib.hid (number_any hrd)
          have HO := Lib.hid ho; have HZ := Lib.hid hzl; have HG := Lib.hid hgs
          clear ho hzl hrd hgs
          go_wp2_with (first
            | (go_at_call 33; refine HNN.out.mono ?_; rintro e w2 ⟨rfl, hr2, hgr2⟩; have HO2 := Lib.hid (HO.out.kept hgr2 (by cases hv : u4.ownBlock with
                | none => exact .inl rfl
                | some x => exact .inr (by have := (World.ownsRow.lt HO.out x hv).1; intro h; cases h; omega))); have HR2 := Lib.hid hr2; have HG2 := Lib.hid (Nat.lt_of_lt_of_le HG.out hgr2.size); clear hr2 hgr2)
            | (at_builtin; refine wpList_append_own _ rfl (.tmp 20) (.tmp 23) 30 rfl (g + 1) 3 i0 (.int .i64 0) 1 8 Try.underlying30 hi0 hz0 hz1 hz2 rfl (by decide) _ _ _ rfl (World.ownsRow.alloc HO2.out _) ⟨w2.heap.size, 0, none⟩ 1 1 [.int .i64 (numR (S, 0)).1] rfl rfl (cell_one_new _ _ _) (by intro u hu; simp at hu; subst hu; rfl) (by have := HZ.out; unfold maxLen; omega) (by have := HZ.out; omega) (by have := HG2.out; simp; omega) ?_; intro v3 w3 hown3 hg3 _; have HR3 := Lib.hid (((HR2.out.grow (World.grownBy_alloc w2 _ (some (g + 1))) (fun k hk => by cases hk; omega) HG2.out).grow hg3 (fun k hk => by have := (World.ownsRow.lt HO2.out k hk).1; omega) (by have := HG2.out; simp; omega))); have HO3 := Lib.hid hown3; have HG3 := Lib.hid (show g < w3.heap.size from Nat.lt_of_lt_of_le (by have := HG2.out; simp; omega) hg3.size); clear hown3 hg3))
          go_roundw
          case rel =>
            have hst : N - k = N - (k + 1) + 1 := by omega
            have hre := hrel.out.1 (by first | trivial | rfl)
            refine ⟨k + 1, zs ++ [(numR (S, 0)).1], _, _, by first | rfl | (simp; omega), by omega, ?_, by simp [HZ.out], HR3.out, HG3.out, ⟨fun h => ?_, fun h => ⟨?_, by omega⟩⟩⟩
            · have := HO3.out
              simpa [OwnI] using this
            · rw [← hre, hst, pre_step _ _ _ h]
            · rw [← hre, hst, pre_stop _ _ _ h]
          case measure => simp [intOf]; omega
        · have h01 : (e2 == 0) = false := by simp [h0]
          have HM := Lib.hid (hrel.out.2 h0)
          clear hrel
          go_wp2
          go_ret
          exact ⟨_, zs, rfl, ho, fun h => absurd (HM.out.1.symm.trans h) h0, by rw [HM.out.1]; exact hrd.any h0⟩
      · obtain rfl : k = N := by omega
        have HM := Lib.hid hrel.out
        clear hrel
        go_wp2
        go_ret
        by_cases h0 : e2 = 0
        · subst h0
          have := HM.out.1 rfl
          rw [Nat.sub_self] at this
          have h3 : many k R = (zs, (S, 0)) := by rw [← this]; simp [many, pre]
          rw [h3]
          exact ⟨_, zs, rfl, ho, fun _ => rfl, hrd⟩
        · have h4 := HM.out.2 h0
          exact ⟨_, zs, rfl, ho, fun h => absurd (h4.1.symm.trans h) h0, by rw [h4.1]; exact hrd.any h0⟩
  · rw [if_neg he]
    have h01 : (e1 == 0) = false := by simp [he]
    have HE := Lib.hid he
    clear hok he
    go_enter Try.func35, Try.ntmps35
    by_cases hV : (0 : Int) < V
    · go_wp2_with (go_at_call 49; refine HN.out.mono ?_; rintro e w1 ⟨rfl, hr, hgr⟩; obtain ⟨A1, n1, c1, k0, k1, f0, f1⟩ := hr.cells; have HR := Lib.hid hr; clear hr)
      refine wp_loop_rounds 1 ?_
      rw [rounds_succ]
      go_wp2
      go_ret
      exact ⟨_, [], rfl, World.ownsRow_nil _ _ _ _, fun h => absurd h HE.out, HR.out.any HE.out⟩
    · go_wp2_with (go_at_call 49; refine HN.out.mono ?_; rintro e w1 ⟨rfl, hr, hgr⟩; obtain ⟨A1, n1, c1, k0, k1, f0, f1⟩ := hr.cells; have HR := Lib.hid hr; clear hr)
      refine wp_loop_rounds 1 ?_
      rw [rounds_succ]
      go_wp2
      go_ret
      exact ⟨_, [], rfl, World.ownsRow_nil _ _ _ _, fun h => absurd h HE.out, HR.out.any HE.out⟩
end Go.Proofs.Ytlcjpnagjiemiaa
