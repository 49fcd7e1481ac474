/- Walk: the bytes of elements. -/
import Derived.Test.YtinnmnhaeejfdaaTgPut
namespace Go.Proofs.Ytinnmnhaeejfdaa
open Go.RowKit

set_option maxRecDepth 100000 in
set_option maxHeartbeats 8000000 in
theorem build_any {A : Option Addr} {n c : Nat} {es : List El} {w : World} (hE : Els w A n es none) (hn : n ≤ 6000000000000) :
    Calls Try.prog 11 #[.slice A n c] w (BldP es w) := by
  have hni : (n : Int) ≤ 6000000000000 := by omega
  have hpl := hE.len
  have HE := Lib.hid hE; have HPL := Lib.hid hpl
  clear hE hn hpl
  go_enter Try.func11, Try.ntmps11
  go_wp2
  go_loopw [4, 5, 10] (fun v pr i wr => ∃ (k : Nat) (L : List Int) (p : Int), i = .int .i64 (k : Int) ∧ pr = .int .i64 p ∧ k ≤ n ∧ Own wr w.heap.size v L ∧ Hid (L ++ putE (es.drop k) = putE es) ∧ Hid (bldE es 0 = bldE (es.drop k) p) ∧ Hid ((L.length : Int) ≤ p * 257 ∧ 0 ≤ p ∧ p ≤ 255) ∧ Below w.heap.size w wr) (fun _ _ i _ => n - (intOf i).toNat)
  case atStart => exact ⟨0, [], 0, rfl, rfl, by omega, own_none _ _, by show _ = _; simp, by show _ = _; simp, Lib.hid (by decide), Below.refl _ _⟩
  case round =>
    obtain ⟨k, L, p, rfl, rfl, hk, ho, hd, hf, hl, hb⟩ := hrel
    by_cases hlt : k < n
    · obtain ⟨e, he⟩ : ∃ e, es[k]? = some e := ⟨_, List.getElem?_eq_getElem (by have := HPL.out; omega)⟩
      obtain ⟨b, off, B, m, d, rfl, hbl0, -, h0, h1, hB, hx⟩ := HE.out.elem k e he
      have hlt' : (k : Int) < (n : Int) := by omega
      have hsg := hb.size
      have hbl : b < wr.heap.size := Nat.lt_of_lt_of_le hbl0 hsg
      have h0 := (hb.cell (p := ⟨b, off + k * 2, none⟩) hbl0).trans h0
      have h1 := (hb.cell (p := ⟨b, off + k * 2 + 1, none⟩) hbl0).trans h1
      have hd' := hd.out
      rw [drop_at' he] at hd'
      have hf' := hf.out
      rw [drop_at' he] at hf'
      have hml := hB.len
      obtain ⟨t, l⟩ := e
      simp only [bldE] at h0 h1 hB hml hx hf'
      rw [hml] at hf'
      have HD := Lib.hid hd'; have HML := Lib.hid hml; have HO := Lib.hid ho; have HB0 := Lib.hid hb; have HBY := Lib.hid hB
      have HF := Lib.hid hf'
      clear hd hf hd' hf' hml ho hB hx he hbl0
      by_cases c1 : t < 1
      · have HR := Lib.hid (HF.out.trans (if_pos (.inl c1)))
        go_wp2
        go_ret2
        exact BldP.no HR.out (by decide) rfl (HB0.out.alloc HB0.out.size _)
      · by_cases c2 : 255 < t
        · have HR := Lib.hid (HF.out.trans (if_pos (.inr c2)))
          go_wp2
          go_ret2
          exact BldP.no HR.out (by decide) rfl (HB0.out.alloc HB0.out.size _)
        · have hf1 := HF.out
          rw [if_neg (by omega)] at hf1
          by_cases c3 : t ≤ p
          · rw [if_pos c3] at hf1
            have HR := Lib.hid hf1; clear hf1
            go_wp2
            go_ret2
            exact BldP.no HR.out (by decide) rfl (HB0.out.alloc HB0.out.size _)
          · rw [if_neg c3] at hf1
            by_cases c4 : 255 < (m : Int)
            · rw [if_pos c4] at hf1
              have HR := Lib.hid hf1; clear hf1
              go_wp2
              go_ret2
              exact BldP.no HR.out (by decide) rfl (HB0.out.alloc HB0.out.size _)
            · rw [if_neg c4] at hf1
              have HR := Lib.hid hf1
              have hLl := hl.out
              have HC := Lib.hid (⟨by show 0 ≤ t; omega, by show t ≤ 255; omega, by show l.length ≤ 255; have := HML.out; omega⟩ : elOk (t, l))
              have HLL : Hid (L.length + (2 + m) ≤ 100000) := Lib.hid (by omega)
              have HLN : Hid ((((L ++ putE [(t, l)]).length : Nat) : Int) ≤ t * 257 ∧ 0 ≤ t ∧ t ≤ 255) := Lib.hid (by simp only [putE, List.append_nil, List.length_append, List.length_cons]; have := HML.out; omega)
              have HPU : Hid (∀ (o1 : Obj), Calls Try.prog 25 #[u4, .slice (some ⟨wr.heap.size + 1, 0, none⟩) 1 1] ((wr.alloc o1).alloc (.cells #[.int .i64 t, .slice B m d] 47)) (PutP u4 w.heap.size (L ++ putE [(t, l)]) ((wr.alloc o1).alloc (.cells #[.int .i64 t, .slice B m d] 47)))) := by
                intro o1
                refine put_any ⟨World.ownsRow.alloc (World.ownsRow.alloc HO.out.1 _) _, HO.out.2⟩ (by rw [heap_size_alloc2]; have := HB0.out.size; omega) (els_one o1 (HBY.out.below HB0.out) (fun x hx hne h9 => ?_) (fun g hg => (World.ownsRow.lt HO.out.1 g hg).2)) (fun e he => ?_) (by omega) ?_
                · have h5 := HBY.out.in x hx hne
                  have h6 := (World.ownsRow.lt HO.out.1 _ h9).1
                  omega
                · rw [List.mem_singleton] at he; subst he; exact HC.out
                · have := HLN.out; simp only [List.length_append] at this; omega
              clear hf1 hLl
              go_wp2_with (go_at_call 25; refine (HPU.out _).mono ?_; rintro e w5 ⟨v5, rfl, hp5⟩; have hb5 : Below w.heap.size w w5 := (((HB0.out.alloc HB0.out.size _).alloc (by have := HB0.out.size; simp; omega) _).grown hp5.grown (by have := HB0.out.size; simp; omega) (fun g hg' => (World.ownsRow.lt HO.out.1 g hg').1)); have hc5 : w5.cell? ⟨wr.heap.size, 0, none⟩ = some (.int .i64 t) := hp5.first (fun g hg' => (World.ownsRow.lt HO.out.1 g hg').2); have HO5 := Lib.hid hp5.own; have HB5 := Lib.hid hb5; clear hp5 hb5)
              go_roundw
              case rel =>
                refine ⟨k + 1, L ++ putE [(t, l)], t, by first | rfl | (simp; omega), rfl, by omega, HO5.out, ?_, HR.out, HLN.out, HB5.out⟩
                have := HD.out
                show _ = _
                rw [← this]; simp [putE]
              case measure => simp [intOf]; omega
    · obtain rfl : k = n := by omega
      have hfin : L = putE es := by
        have := hd.out
        rw [List.drop_eq_nil_of_le (by have := HPL.out; omega)] at this
        simpa [putE] using this
      have hall : bldE es 0 = 0 := by
        have := hf.out
        rw [List.drop_eq_nil_of_le (by have := HPL.out; omega)] at this
        simpa [bldE] using this
      have HFI := Lib.hid hfin; have HAL := Lib.hid hall; clear hfin hall
      go_wp2
      go_ret2
      exact BldP.yes HAL.out rfl (HFI.out ▸ ho) hb
end Go.Proofs.Ytinnmnhaeejfdaa
