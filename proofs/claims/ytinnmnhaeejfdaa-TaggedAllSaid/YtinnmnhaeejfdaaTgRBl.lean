/- Walk: the bytes of elements in the reference. -/
import Derived.Test.YtinnmnhaeejfdaaTgV
namespace Go.Proofs.Ytinnmnhaeejfdaa
open Go.RowKit

set_option maxRecDepth 100000 in
set_option maxHeartbeats 8000000 in
theorem refBuild_any {A : Option Addr} {n c : Nat} {es : List El} {w : World} (hE : Els w A n es none) (hn : n ≤ 6000000000000) :
    Calls Try.prog 12 #[.slice A n c] w (BldP es w) := by
  obtain ⟨i0, hi0, hz0, hz1, hz2⟩ := info_parts byteInfo
  have hni : (n : Int) ≤ 6000000000000 := by omega
  have hpl := hE.len
  have HE := Lib.hid hE; have HPL := Lib.hid hpl
  clear hE hn hpl
  go_enter Try.func12, Try.ntmps12
  go_wp2
  go_loopw [4, 5, 6] (fun v pr i wr => ∃ (k : Nat) (L : List Int) (p : Int), i = .int .i64 (k : Int) ∧ pr = .int .i64 p ∧ k ≤ n ∧ Own wr w.heap.size v L ∧ Hid (L ++ putE (es.drop k) = putE es) ∧ Hid (bldE es 0 = bldE (es.drop k) p) ∧ Hid ((L.length : Int) ≤ p * 257 ∧ 0 ≤ p ∧ p ≤ 255) ∧ Below w.heap.size w wr) (fun _ _ i _ => n - (intOf i).toNat)
  case atStart => exact ⟨0, [], 0, rfl, rfl, by omega, own_none _ _, by show _ = _; simp, by show _ = _; simp, Lib.hid (by decide), Below.refl _ _⟩
  case round =>
    obtain ⟨k, L, p, rfl, rfl, hk, ho, hd, hf, hl, hb⟩ := hrel
    by_cases hlt : k < n
    · obtain ⟨e, he⟩ : ∃ e, es[k]? = some e := ⟨_, List.getElem?_eq_getElem (by have := HPL.out; omega)⟩
      obtain ⟨b, off, B, m, d, rfl, hbl0, -, h0, h1, hB, hx⟩ := HE.out.elem k e he
      have hlt' : (k : Int) < (n : Int) := by omega
      have hsg := hb.size
      have hbl : b < wr.heap.size := Nat.lt_of_lt_of_le hbl0 hsg
      have h0 := (hb.cell (p := ⟨b, off + k * 2, none⟩) hbl0).trans h0
      have h1 := (hb.cell (p := ⟨b, off + k * 2 + 1, none⟩) hbl0).trans h1
      have hd' := hd.out
      rw [drop_at' he] at hd'
      have hf' := hf.out
      rw [drop_at' he] at hf'
      have hml := hB.len
      obtain ⟨t, l⟩ := e
      simp only [bldE] at h0 h1 hB hml hx hf'
      rw [hml] at hf'
      have HD := Lib.hid hd'; have HML := Lib.hid hml; have HO := Lib.hid ho; have HB0 := Lib.hid hb; have HBY := Lib.hid hB
      have HF := Lib.hid hf'
      clear hd hf hd' hf' hml ho hB hx he hbl0
      by_cases c1 : t < 1
      · have HR := Lib.hid (HF.out.trans (if_pos (.inl c1)))
        go_wp2
        go_ret2
        exact BldP.no HR.out (by decide) rfl (HB0.out.alloc HB0.out.size _)
      · by_cases c2 : 255 < t
        · have HR := Lib.hid (HF.out.trans (if_pos (.inr c2)))
          go_wp2
          go_ret2
          exact BldP.no HR.out (by decide) rfl (HB0.out.alloc HB0.out.size _)
        · have hf1 := HF.out
          rw [if_neg (by omega)] at hf1
          by_cases c3 : t ≤ p
          · rw [if_pos c3] at hf1
            have HR := Lib.hid hf1; clear hf1
            go_wp2
            go_ret2
            exact BldP.no HR.out (by decide) rfl (HB0.out.alloc HB0.out.size _)
          · rw [if_neg c3] at hf1
            by_cases c4 : 255 < (m : Int)
            · rw [if_pos c4] at hf1
              have HR := Lib.hid hf1; clear hf1
              go_wp2
              go_ret2
              exact BldP.no HR.out (by decide) rfl (HB0.out.alloc HB0.out.size _)
            · rw [if_neg c4] at hf1
              have HR := Lib.hid hf1
              have hLl := hl.out
              have HC := Lib.hid (⟨by show 0 ≤ t; omega, by show t ≤ 255; omega, by show l.length ≤ 255; have := HML.out; omega⟩ : elOk (t, l))
              have HLL : Hid (L.length + (2 + m) ≤ 100000) := Lib.hid (by omega)
              have HLN : Hid ((((L ++ putE [(t, l)]).length : Nat) : Int) ≤ t * 257 ∧ 0 ≤ t ∧ t ≤ 255) := Lib.hid (by simp only [putE, List.append_nil, List.length_append, List.length_cons]; have := HML.out; omega)
              have HP0 : Hid (Ap wr u4 w.heap.size L u4 wr) := Lib.hid ⟨HO.out, World.grownBy.refl _ _, .inl rfl⟩
              have HT : Hid (0 ≤ t ∧ t ≤ 255) := Lib.hid (by omega)
              have HM2 : Hid (0 ≤ (m : Int) ∧ (m : Int) ≤ 255) := Lib.hid (by omega)
              clear hf1 hLl
              go_wp2_with (first
                | (at_builtin; refine wpList_append_own_at _ rfl (.tmp 34) (.tmp 42) 25 rfl w.heap.size 5 i0 (.int .u8 0) 1 1 Try.underlying25 hi0 hz0 hz1 hz2 rfl (by decide) _ _ _ rfl (World.ownsRow.alloc (World.ownsRow.alloc HO.out.1 _) _) ⟨wr.heap.size + 1, 0, none⟩ 2 2 [.int .u8 t, .int .u8 (m : Int)] rfl rfl (cell_two_new' (by simp) _ _ _) (one_two _ _) (by have := HLL.out; unfold maxLen; omega) (by have := HLL.out; omega) (by rw [heap_size_alloc2]; have := HB0.out.size; omega) ?_; intro v4 w4 hown4 hg4 _ hat4; have hp4 := HP0.out.two' _ _ HT.out HM2.out hown4 hg4 hat4; obtain ⟨hc0, hc1, hne4⟩ := HP0.out.fields hg4 hat4; have hs4 : wr.heap.size < w4.heap.size := (by have := (HP0.out.field hg4).2; omega); have HB4 := Lib.hid ((((HB0.out.alloc HB0.out.size _).alloc (by have := HB0.out.size; simp; omega) _).grown hg4 (by rw [heap_size_alloc2]; have := HB0.out.size; omega) (fun g hg' => (World.ownsRow.lt HO.out.1 g hg').1))); have HP4 := Lib.hid hp4; have HY4 := Lib.hid (HBY.out.below HB4.out); have HNE := Lib.hid hne4; clear hown4 hg4 hat4 hp4 hne4)
                | (at_builtin; refine wpList_append_has_at rfl (.tmp 44) (.tmp 46) 25 rfl w.heap.size 5 i0 (.int .u8 0) 1 Try.underlying25 hi0 hz0 hz1 hz2 rfl _ _ _ rfl HP4.out.own.1 _ _ _ _ rfl HY4.out.has (by have := HLL.out; rw [List.length_append]; simp only [List.length_cons, List.length_nil]; unfold maxLen; omega) (by have := HLL.out; rw [List.length_append]; simp only [List.length_cons, List.length_nil]; omega) HB4.out.size ?_; intro v5 w5 hown5 hg5 _; have hc5 : w5.cell? ⟨wr.heap.size, 0, none⟩ = some (.int .i64 t) := hg5.cell hc0 (fun e' => HNE.out e'); have HO5 := Lib.hid (glueF hown5 HML.out HP4.out.own.2 HY4.out.ran); have HB5 := Lib.hid (HB4.out.grown hg5 HB4.out.size (fun g hg' => (World.ownsRow.lt HP4.out.own.1 g hg').1)); clear hown5 hg5 hc0 hc1))
              go_roundw
              case rel =>
                refine ⟨k + 1, L ++ [t, (m : Int)] ++ l, t, by first | rfl | (simp; omega), rfl, by omega, HO5.out, ?_, HR.out, ?_, HB5.out⟩
                · have := HD.out
                  show _ = _
                  rw [← this]; simp [putE, HML.out]
                · have := HLN.out; simp only [putE, List.append_nil, List.length_append, List.length_cons, List.length_nil] at this ⊢; exact Lib.hid (by omega)
              case measure => simp [intOf]; omega
    · obtain rfl : k = n := by omega
      have hfin : L = putE es := by
        have := hd.out
        rw [List.drop_eq_nil_of_le (by have := HPL.out; omega)] at this
        simpa [putE] using this
      have hall : bldE es 0 = 0 := by
        have := hf.out
        rw [List.drop_eq_nil_of_le (by have := HPL.out; omega)] at this
        simpa [bldE] using this
      have HFI := Lib.hid hfin; have HAL := Lib.hid hall; clear hfin hall
      go_wp2
      go_ret2
      exact BldP.yes HAL.out rfl (HFI.out ▸ ho) hb
end Go.Proofs.Ytinnmnhaeejfdaa
