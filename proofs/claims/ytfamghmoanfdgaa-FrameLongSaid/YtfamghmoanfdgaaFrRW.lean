/- Walks: Wrap and Join of the reference. -/
import Derived.Test.YtfamghmoanfdgaaRows
import Derived.Test.YtfamghmoanfdgaaFrU
import Derived.Test.YtfamghmoanfdgaaFrRN
namespace Go.Proofs.Ytfamghmoanfdgaa
open Go.RowKit

/-- What the reference's Wrap gives. -/
def WrapP (p : List Int) (w : World) (e : Ending) (w' : World) : Prop :=
  (if fits p = true then ∃ v, e = .returned (.tuple #[v, .int .i64 0]) ∧ Own w' w.heap.size v (frm p) else e = .returned (.tuple #[.slice none 0 0, .int .i64 5])) ∧ Below w.heap.size w w'
theorem WrapP.no {p : List Int} {w : World} {e : Ending} {w' : World} (h : fits p = false) (he : e = .returned (.tuple #[.slice none 0 0, .int .i64 5])) (hb : Below w.heap.size w w') : WrapP p w e w' :=
  ⟨by rw [if_neg (by rw [h]; decide)]; exact he, hb⟩
theorem WrapP.yes {p : List Int} {w : World} {e : Ending} {w' : World} {v : Value} (h : fits p = true) (he : e = .returned (.tuple #[v, .int .i64 0])) (ho : Own w' w.heap.size v (frm p)) (hb : Below w.heap.size w w') : WrapP p w e w' :=
  ⟨by rw [if_pos h]; exact ⟨v, he, ho⟩, hb⟩
set_option maxRecDepth 100000 in
set_option maxHeartbeats 4000000 in
theorem refWrap_any {A : Option Addr} {n c : Nat} {l : List Int} {w : World} (hA : Byt w A n c l) (hn : n ≤ 90000000) :
    Calls Try.prog 16 #[.slice A n c] w (WrapP l w) := by
  obtain ⟨i0, hi0, hz0, hz1, hz2⟩ := info_parts byteInfo
  have hl := hA.len
  by_cases hbig : (1048576 : Int) < (n : Int)
  · have hno : fits l = false := by simp [fits]; omega
    have HF := Lib.hid hno
    clear hno hA
    go_enter Try.func16, Try.ntmps16
    go_wp2
    go_ret2
    exact WrapP.no HF.out rfl (Below.refl _ _)
  · have hyes : fits l = true := by simp [fits]; omega
    have HF := Lib.hid hyes
    have HS := Lib.hid (refSum_any hA (by omega))
    have hP := refPutNum_any (n : Int) (byt_nil w) (by omega) (by omega)
    rw [List.nil_append] at hP
    have HP := Lib.hid hP
    have h10 := numE_len (z := n) (by omega) (by omega)
    have HA := Lib.hid hA; have HL := Lib.hid hl; have HN : Hid (n ≤ 1048576) := Lib.hid (by omega); have H10 := Lib.hid h10
    clear hyes hA hl hP hn h10
    go_enter Try.func16, Try.ntmps16
    go_wp2_with (first
      | (go_at_call 12; refine HS.out.mono ?_; rintro e w1 ⟨rfl, rfl⟩)
      | (go_at_call 25; refine HP.out.mono ?_; rintro e w2 ⟨v2, rfl, ho2, hb2⟩; have HB2 := Lib.hid hb2; have HO2 := Lib.hid ho2; have HA2 := Lib.hid (HA.out.below hb2); clear ho2 hb2)
      | (at_builtin; refine wpList_append_own _ rfl (.tmp 14) (.tmp 26) 22 rfl w.heap.size 5 i0 (.int .u8 0) 1 1 Try.underlying22 hi0 hz0 hz1 hz2 rfl (by decide) _ _ _ rfl (World.ownsRow.alloc HO2.out.1 _) ⟨w2.heap.size, 0, none⟩ 4 4 [.int .u8 ((fnv l : Int) / 16777216 % 256), .int .u8 ((fnv l : Int) / 65536 % 256), .int .u8 ((fnv l : Int) / 256 % 256), .int .u8 ((fnv l : Int) % 256)] rfl rfl (cell_four_new _ _ _ _ _ _) (one_four _ _ _ _) (by have := H10.out; unfold maxLen; omega) (by have := H10.out; omega) (by have := HB2.out.size; simp; omega) ?_; intro v4 w4 hown4 hg4 _; have hb4 : Below w.heap.size w w4 := ((HB2.out.alloc HB2.out.size _).grown hg4 (by have := HB2.out.size; simp; omega) (fun g hg' => (World.ownsRow.lt HO2.out.1 g hg').1)); have HB4 := Lib.hid hb4; have HO4 := Lib.hid hown4; have Y4 := Lib.hid (HA.out.below hb4); clear hb4 hown4)
      | (at_builtin; refine wpList_append_has rfl (.tmp 28) (.tmp 29) 22 rfl w.heap.size 5 i0 (.int .u8 0) 1 Try.underlying22 hi0 hz0 hz1 hz2 rfl _ _ _ rfl HO4.out _ _ _ _ rfl Y4.out.has (by have := H10.out; have := HN.out; unfold maxLen; omega) (by have := H10.out; have := HN.out; omega) (by have := HB4.out.size; omega) ?_; intro v5 w5 hown5 hg5; have hb5 : Below w.heap.size w w5 := (HB4.out.grown hg5 (by have := HB4.out.size; omega) (fun g hg' => (World.ownsRow.lt HO4.out g hg').1)); have HB5 := Lib.hid hb5; have HO5 := Lib.hid hown5; clear hb5 hown5))
    go_ret2
    refine WrapP.yes HF.out rfl ⟨?_, ?_⟩ HB5.out
    · have h5 := HO5.out
      have e1 : (numE (n : Int)).length + 4 + n = (frm l).length := by
        have := HL.out
        simp only [frm, List.length_append, be4_len, this]; omega
      have e2 : C8 (numE (n : Int)) ++ [Value.int .u8 ((fnv l : Int) / 16777216 % 256), .int .u8 ((fnv l : Int) / 65536 % 256), .int .u8 ((fnv l : Int) / 256 % 256), .int .u8 ((fnv l : Int) % 256)] ++ C8 l = C8 (frm l) := by
        rw [frm, C8_app, C8_app, HL.out, List.append_assoc]
        rfl
      rw [← e1, ← e2]; exact h5
    · exact ran_app (numE_byte _) (ran_app (be4_ran _) HA.out.ran)
theorem refWrap_ok {A : Option Addr} {n c : Nat} {l : List Int} {w : World} (hA : Byt w A n c l) (hf : fits l = true) :
    Calls Try.prog 16 #[.slice A n c] w fun e w' => ∃ v, e = .returned (.tuple #[v, .int .i64 0]) ∧ Own w' w.heap.size v (frm l) ∧ Below w.heap.size w w' :=
  (refWrap_any hA (by have := of_decide_eq_true hf; have := hA.len; omega)).mono fun e w' ⟨h1, hb⟩ => by
    rw [if_pos hf] at h1
    obtain ⟨v, he, ho⟩ := h1
    exact ⟨v, he, ho, hb⟩
theorem few_bits {ps : List (List Int)} (h : ps.all fits = true) : ∀ p ∈ ps, fits p = true := List.all_eq_true.1 h
set_option maxRecDepth 100000 in
set_option maxHeartbeats 8000000 in
theorem refJoin_any {A : Option Addr} {n c : Nat} {vs : List Value} {ps : List (List Int)} {w : World} (hA : Pls w A n c vs ps) (hn : n ≤ 100000) (hall : ∀ p ∈ ps, p.length ≤ 1048576) (hj : (joinE ps).length ≤ 100000000) :
    Calls Try.prog 19 #[.slice A n c] w fun e w' => ∃ v, e = .returned (.tuple #[v, .int .i64 0]) ∧ Own w' w.heap.size v (joinE ps) ∧ Below w.heap.size w w' := by
  obtain ⟨i0, hi0, hz0, hz1, hz2⟩ := info_parts byteInfo
  have hni : (n : Int) ≤ 100000 := by omega
  have hpl := hA.len
  have HA := Lib.hid hA; have HJ := Lib.hid hj; have HPL := Lib.hid hpl; have HALL := Lib.hid hall
  clear hA hj hn hpl hall
  go_enter Try.func19, Try.ntmps19
  go_wp2
  go_loopw [4, 5] (fun v i wr => ∃ (k : Nat) (L : List Int), i = .int .i64 (k : Int) ∧ k ≤ n ∧ Own wr w.heap.size v L ∧ Hid (L ++ joinE (ps.drop k) = joinE ps) ∧ Below w.heap.size w wr) (fun _ i _ => n - (intOf i).toNat)
  case atStart => exact ⟨0, [], rfl, by omega, own_none _ _, by show _ = _; simp, Below.refl _ _⟩
  case round =>
    obtain ⟨k, L, rfl, hk, ho, hd, hb⟩ := hrel
    by_cases hlt : k < n
    · obtain ⟨b, off, B, m, d, p, rfl, hcell, hbl, hp, hB⟩ := HA.out.at hlt
      have hlt' : (k : Int) < (n : Int) := by omega
      have hc2 := (hb.cell (p := ⟨b, off + k, none⟩) hbl).trans hcell
      have hml := hB.len
      have hd' := hd.out
      rw [drop_at' hp] at hd'
      have hpf := HALL.out p (List.mem_of_getElem? hp)
      have hlen := congrArg List.length hd'
      simp only [joinE, List.length_append] at hlen
      have hW := refWrap_ok (hB.below hb) (show fits p = true by simp [fits]; omega)
      have HW := Lib.hid hW; have HB := Lib.hid hb; have HO := Lib.hid ho; have HD := Lib.hid hd'
      have HLL : Hid (L.length + (frm p).length ≤ 100000000) := Lib.hid (by have := HJ.out; omega)
      clear hW hb ho hd' hd hlen hcell hB hpf
      go_wp2_with (first
        | (go_at_call 16; refine HW.out.mono ?_; rintro e w2 ⟨v2, rfl, ho2, hb2⟩; obtain ⟨A2, m2, c2, rfl, hm2, y2⟩ := ho2.bytm; have HB2 := Lib.hid (HB.out.trans (hb2.mono HB.out.size)); have HO2 := Lib.hid (HO.out.below hb2); have Y2 := Lib.hid y2; clear ho2 hb2 y2)
        | (at_builtin; refine wpList_append_has rfl (.tmp 25) (.tmp 26) 22 rfl w.heap.size 5 i0 (.int .u8 0) 1 Try.underlying22 hi0 hz0 hz1 hz2 rfl _ _ _ rfl HO2.out.1 _ _ _ _ rfl Y2.out.has (by have := HLL.out; have := hm2.out; unfold maxLen; omega) (by have := HLL.out; have := hm2.out; omega) (by have := HB2.out.size; omega) ?_; intro v3 w3 hown3 hg3; have hb3 : Below w.heap.size w w3 := (HB2.out.grown hg3 HB2.out.size (fun g hg' => (World.ownsRow.lt HO2.out.1 g hg').1)); have HB3 := Lib.hid hb3; have HO3 := Lib.hid hown3; clear hb3 hown3))
      go_roundw
      case rel =>
        refine ⟨k + 1, L ++ frm p, by first | rfl | (simp; omega), by omega, ⟨?_, ?_⟩, ?_, HB3.out⟩
        · have h5 := HO3.out
          have hm := hm2.out
          rw [List.length_append, C8_app, ← hm]; exact h5
        · exact ran_app HO.out.2 Y2.out.ran
        · have := HD.out
          show _ = _
          rw [← this]; simp [joinE]
      case measure => simp [intOf]; omega
    · obtain rfl : k = n := by omega
      have hfin : L = joinE ps := by
        have := hd.out
        rw [List.drop_eq_nil_of_le (by have := HPL.out; omega)] at this
        simpa [joinE] using this
      have HFI := Lib.hid hfin; clear hfin
      go_wp2
      go_ret2
      exact ⟨_, rfl, HFI.out ▸ ho, hb⟩
end Go.Proofs.Ytfamghmoanfdgaa
