/- Walk: put appends the bytes of elements. -/
import Derived.Test.YtinnmnhaeejfdaaTgV
namespace Go.Proofs.Ytinnmnhaeejfdaa
open Go.RowKit

set_option maxRecDepth 100000 in
set_option maxHeartbeats 8000000 in
theorem put_any {v : Value} {base : Nat} {L0 : List Int} {A : Option Addr} {n c : Nat} {es : List El} {w : World} (ho : Own w base v L0) (hb : base ≤ w.heap.size) (hE : Els w A n es v.ownBlock) (hok : ∀ e ∈ es, elOk e) (hn : n ≤ 100000) (hL : L0.length + (putE es).length ≤ 100000000) :
    Calls Try.prog 25 #[v, .slice A n c] w (PutP v base (L0 ++ putE es) w) := by
  obtain ⟨i0, hi0, hz0, hz1, hz2⟩ := info_parts byteInfo
  have hni : (n : Int) ≤ 100000 := by omega
  have hpl := hE.len
  have HE := Lib.hid hE; have HJ := Lib.hid hL; have HPL := Lib.hid hpl; have HOK := Lib.hid hok; have HO0 := Lib.hid ho; have HBA := Lib.hid hb
  clear hE hL hn hpl hok ho hb
  go_enter Try.func25, Try.ntmps25
  go_wp2
  go_loopw [0, 9] (fun vr i wr => ∃ (k : Nat) (L : List Int), i = .int .i64 (k : Int) ∧ k ≤ n ∧ Hid (L ++ putE (es.drop k) = L0 ++ putE es) ∧ Ap w v base L vr wr) (fun _ i _ => n - (intOf i).toNat)
  case atStart => exact ⟨0, L0, rfl, by omega, by show _ = _; simp, HO0.out, World.grownBy.refl _ _, .inl rfl⟩
  case round =>
    obtain ⟨k, L, rfl, hk, hd, hp⟩ := hrel
    by_cases hlt : k < n
    · obtain ⟨e, he⟩ : ∃ e, es[k]? = some e := ⟨_, List.getElem?_eq_getElem (by have := HPL.out; omega)⟩
      have hok := HOK.out e (List.mem_of_getElem? he)
      obtain ⟨b, off, B, m, d, rfl, hbl0, hrb, h0, h1, hB, hx⟩ := HE.out.elem k e he
      have hlt' : (k : Int) < (n : Int) := by omega
      have hsg := hp.grown.size
      have hbl : b < wr.heap.size := Nat.lt_of_lt_of_le hbl0 hsg
      have h0 := hp.grown.cell h0 (fun e' => hrb e'.symm)
      have h1 := hp.grown.cell h1 (fun e' => hrb e'.symm)
      have hd' := hd.out
      rw [drop_at' he] at hd'
      have hml := hB.len
      obtain ⟨t, l⟩ := e
      obtain ⟨ht0, ht1, hl1⟩ := hok
      simp only at h0 h1 hB hml hx ht0 ht1 hl1
      have hm2 : (m : Int) ≤ 255 := by omega
      have hlen := congrArg List.length hd'
      simp only [putE, List.length_append, List.length_cons] at hlen
      have hLl : L.length + (2 + m) ≤ 100000000 := by have := HJ.out; omega
      have HD := Lib.hid hd'; have HB := Lib.hid hB; have HX := Lib.hid hx; have HP := Lib.hid hp; have HT := Lib.hid (And.intro ht0 ht1); have HML := Lib.hid hml; have HL := Lib.hid hLl; have HM2 := Lib.hid hm2
      have HBW := Lib.hid (Nat.le_trans HBA.out hsg)
      clear hd hd' hB hx hp he hml hrb hbl0 hlen hl1 hLl ht0 ht1 hm2
      go_wp2_with (first
        | (at_builtin; have hN : ∀ j u, [Value.int .u8 (t % 256), Value.int .u8 ((m : Int) % 256)][j]? = some u → ((wr.alloc (.cells #[Value.int .i64 t, Value.slice B m d] 47)).alloc (.cells #[Value.int .u8 (t % 256), Value.int .u8 ((m : Int) % 256)] 5)).cell? ((⟨wr.heap.size + 1, 0, none⟩ : Addr).add j) = some u := cell_two_new' (by simp) _ _ _; have hq3 : L.length + 2 ≤ maxLen := (by have := HL.out; unfold maxLen; omega); have hq4 : (L.length + 2) * 1 ≤ 140737488355328 := (by have := HL.out; omega); have hq5 : base ≤ ((wr.alloc (.cells #[Value.int .i64 t, Value.slice B m d] 47)).alloc (.cells #[Value.int .u8 (t % 256), Value.int .u8 ((m : Int) % 256)] 5)).heap.size := (Nat.le_trans HBW.out (by rw [heap_size_alloc2]; omega)); refine wpList_append_own_at _ rfl (.tmp 13) (.tmp 21) 25 rfl base 5 i0 (.int .u8 0) 1 1 Try.underlying25 hi0 hz0 hz1 hz2 rfl (by decide) _ _ _ rfl (World.ownsRow.alloc (World.ownsRow.alloc HP.out.own.1 _) _) ⟨wr.heap.size + 1, 0, none⟩ 2 2 [.int .u8 (t % 256), .int .u8 ((m : Int) % 256)] rfl rfl hN (one_two _ _) hq3 hq4 hq5 ?_; intro v4 w4 hown4 hg4 _ hat4; have hp4 := HP.out.two _ _ HT.out ⟨Int.natCast_nonneg _, HM2.out⟩ hown4 hg4 hat4; have hf4 := HP.out.field hg4; have hc4 := hf4.1; have hs4 : wr.heap.size < w4.heap.size := (by have := hf4.2; omega); have HP4 := Lib.hid hp4; have HB4 := Lib.hid (HB.out.grown hp4.grown HX.out); have hbw4 : base ≤ w4.heap.size := (by have := HBW.out; omega); have HBW4 := Lib.hid hbw4; clear hown4 hg4 hat4 hf4 hp4 hbw4)
        | (at_builtin; refine wpList_append_has_at rfl (.tmp 23) (.tmp 25) 25 rfl base 5 i0 (.int .u8 0) 1 Try.underlying25 hi0 hz0 hz1 hz2 rfl _ _ _ rfl HP4.out.own.1 _ _ _ _ rfl HB4.out.has (by have := HL.out; unfold maxLen; rw [List.length_append]; simp only [List.length_cons, List.length_nil]; omega) (by have := HL.out; rw [List.length_append]; simp only [List.length_cons, List.length_nil]; omega) HBW4.out ?_; intro v5 w5 hown5 hg5 hat5; have HP5 := Lib.hid (HP4.out.more (World.grownBy.refl _ _) hg5 hat5 (glueF hown5 HML.out HP4.out.own.2 HB4.out.ran)); clear hown5 hg5 hat5))
      go_roundw
      case rel =>
        refine ⟨k + 1, L ++ [t, (m : Int)] ++ l, by first | rfl | (simp; omega), by omega, ?_, HP5.out⟩
        have := HD.out
        show _ = _
        rw [← this]; simp [putE, HML.out]
      case measure => simp [intOf]; omega
    · obtain rfl : k = n := by omega
      have hfin : L = L0 ++ putE es := by
        have := hd.out
        rw [List.drop_eq_nil_of_le (by have := HPL.out; omega)] at this
        simpa [putE] using this
      have HFI := Lib.hid hfin; clear hfin
      go_wp2
      go_ret
      exact ⟨_, rfl, HFI.out ▸ hp⟩
end Go.Proofs.Ytinnmnhaeejfdaa
