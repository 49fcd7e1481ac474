/- Walk: the chapter's examples. -/
import Derived.Test.YtokdfdinnaghmaaDoorTxEd
import Derived.Test.YtokdfdinnaghmaaDoorTxLp
import Derived.Laws.StructEq
namespace Go.Proofs.YtokdfdinnaghmaaDoor.Tx
open Go Go.Lib Go.RowKit Go.Proofs.YtokdfdinnaghmaaDoor

/-- The variables that textual reads. -/
structure Env (w : World) : Prop where
  tab : Tab w
  idx : IdxV w
theorem Env.below {w w' : World} (h : Env w) (hb : Below w.heap.size w w') : Env w' := by
  refine ⟨h.tab.below hb, ?_⟩
  obtain ⟨m, hm⟩ := h.idx
  exact ⟨m, (World.cell?_of_block (w := w) (a := ⟨0, 0, none⟩) (hb.block 0 (Lib.lt_of_cell hm))).trans hm⟩
theorem guardRec : Tryd.prog.eqGuardType Tryd.prog.depth 23 = false := by kernel_rfl
set_option maxHeartbeats 1000000 in
theorem eqRec_same (r : Rc) (w : World) : (binOp .eql 23 (.agg r.cells) (.agg r.cells)).run Tryd.prog w = .ok (.bool true) w := by
  have u3 := Tryd.underlying3
  have a3 := Tryd.isAgg3
  have z3 := Tryd.sizeOf3
  have u4 := Tryd.underlying4
  have a4 := Tryd.isAgg4
  have z4 := Tryd.sizeOf4
  have u9 := Tryd.underlying9
  have a9 := Tryd.isAgg9
  have z9 := Tryd.sizeOf9
  have hS : Tryd.prog.underlying 23 = some (.struct (Tryd.prog.fieldsOf 23)) := by kernel_rfl
  have hp : Tryd.prog.stoodInHeld 23 = false := by kernel_rfl
  unfold Rc.cells
  rw [run_eql_struct, show (10000 : Nat) = 9999 + 1 from rfl, run_equalIn_agg w 9999 23 _ _ hS hp]
  simp only [Program.fieldsOf, Tryd.underlying23]
  go_simp
def r1 : Rc := ⟨1, 7, 1, ⟨#[52, 57, 49, 53]⟩, ⟨#[52, 57, 51, 48]⟩, 60, 90, 0, 0, false, 0, false⟩
def r2 : Rc := ⟨1, 7, 1, ⟨#[52, 57, 49, 53]⟩, ⟨#[52, 57, 51, 48]⟩, 60, 90, 3, 2, true, 0, false⟩
def r3 : Rc := ⟨1, 8, 3, ⟨#[52, 57, 49, 53]⟩, ⟨#[]⟩, 0, 1024, 0, 0, false, 0, false⟩
theorem enc1 (W : World) (h : Env W) : Calls Tryd.prog 10 #[.agg #[.int .i64 1, .int .i64 7, .int .i64 1, .string ⟨#[52, 57, 49, 53]⟩, .string ⟨#[52, 57, 51, 48]⟩, .int .i64 60, .int .i64 90, .int .i64 0, .int .i64 0, .bool false, .int .i64 0, .bool false]] W fun e w' => e = .returned (.tuple #[.string ⟨#[118, 32, 49, 32, 55, 32, 52, 57, 49, 53, 32, 52, 57, 51, 48, 32, 54, 48, 32, 57, 48]⟩, .int .i64 0]) ∧ Below W.heap.size W w' := by
  have h9 := encode_any r1 (by decide) (by decide) W h.tab
  unfold EncT at h9
  rw [show encT r1 = ⟨#[118, 32, 49, 32, 55, 32, 52, 57, 49, 53, 32, 52, 57, 51, 48, 32, 54, 48, 32, 57, 48]⟩ by kernel_rfl, show chkR r1 = 0 by kernel_rfl] at h9
  exact h9
theorem enc2 (W : World) (h : Env W) : Calls Tryd.prog 10 #[.agg #[.int .i64 1, .int .i64 7, .int .i64 1, .string ⟨#[52, 57, 49, 53]⟩, .string ⟨#[52, 57, 51, 48]⟩, .int .i64 60, .int .i64 90, .int .i64 3, .int .i64 2, .bool true, .int .i64 0, .bool false]] W fun e w' => e = .returned (.tuple #[.string ⟨#[118, 32, 49, 32, 55, 32, 52, 57, 49, 53, 32, 52, 57, 51, 48, 32, 54, 48, 32, 57, 48, 32, 112, 97, 114, 116, 32, 51, 32, 50, 32, 108, 97, 115, 116]⟩, .int .i64 0]) ∧ Below W.heap.size W w' := by
  have h9 := encode_any r2 (by decide) (by decide) W h.tab
  unfold EncT at h9
  rw [show encT r2 = ⟨#[118, 32, 49, 32, 55, 32, 52, 57, 49, 53, 32, 52, 57, 51, 48, 32, 54, 48, 32, 57, 48, 32, 112, 97, 114, 116, 32, 51, 32, 50, 32, 108, 97, 115, 116]⟩ by kernel_rfl, show chkR r2 = 0 by kernel_rfl] at h9
  exact h9
theorem dec1 (W : World) (h : Env W) : Calls Tryd.prog 12 #[.string ⟨#[100, 32, 49, 32, 56, 32, 52, 57, 49, 53, 32, 45, 32, 48, 32, 49, 48, 50, 52]⟩] W fun e w' => e = .returned (.tuple #[.agg #[.int .i64 1, .int .i64 8, .int .i64 3, .string ⟨#[52, 57, 49, 53]⟩, .string ⟨#[]⟩, .int .i64 0, .int .i64 1024, .int .i64 0, .int .i64 0, .bool false, .int .i64 0, .bool false], .int .i64 0]) ∧ Below W.heap.size W w' := by
  have h9 := decode_any ⟨#[100, 32, 49, 32, 56, 32, 52, 57, 49, 53, 32, 45, 32, 48, 32, 49, 48, 50, 52]⟩ W (by decide) h.idx h.tab
  unfold DecT at h9
  rw [show decT (⟨#[100, 32, 49, 32, 56, 32, 52, 57, 49, 53, 32, 45, 32, 48, 32, 49, 48, 50, 52]⟩ : ByteArray).data.toList = (r3, 0) by kernel_rfl] at h9
  exact h9
theorem dec2 (W : World) (h : Env W) : Calls Tryd.prog 12 #[.string ⟨#[118, 32, 49, 32, 55, 32, 52, 57, 49, 53, 32, 45, 32, 54, 48, 32, 57, 48]⟩] W fun e w' => e = .returned (.tuple #[.agg #[.int .i64 0, .int .i64 0, .int .i64 0, .string ⟨#[]⟩, .string ⟨#[]⟩, .int .i64 0, .int .i64 0, .int .i64 0, .int .i64 0, .bool false, .int .i64 0, .bool false], .int .i64 12]) ∧ Below W.heap.size W w' := by
  have h9 := decode_any ⟨#[118, 32, 49, 32, 55, 32, 52, 57, 49, 53, 32, 45, 32, 54, 48, 32, 57, 48]⟩ W (by decide) h.idx h.tab
  unfold DecT at h9
  rw [show decT (⟨#[118, 32, 49, 32, 55, 32, 52, 57, 49, 53, 32, 45, 32, 54, 48, 32, 57, 48]⟩ : ByteArray).data.toList = (rcZ, 12) by kernel_rfl] at h9
  exact h9
theorem dec3 (W : World) (h : Env W) : Calls Tryd.prog 12 #[.string ⟨#[118, 32, 49, 32, 48, 55, 32, 52, 57, 49, 53, 32, 52, 57, 51, 48, 32, 54, 48, 32, 57, 48]⟩] W fun e w' => e = .returned (.tuple #[.agg #[.int .i64 0, .int .i64 0, .int .i64 0, .string ⟨#[]⟩, .string ⟨#[]⟩, .int .i64 0, .int .i64 0, .int .i64 0, .int .i64 0, .bool false, .int .i64 0, .bool false], .int .i64 1]) ∧ Below W.heap.size W w' := by
  have h9 := decode_any ⟨#[118, 32, 49, 32, 48, 55, 32, 52, 57, 49, 53, 32, 52, 57, 51, 48, 32, 54, 48, 32, 57, 48]⟩ W (by decide) h.idx h.tab
  unfold DecT at h9
  rw [show decT (⟨#[118, 32, 49, 32, 48, 55, 32, 52, 57, 49, 53, 32, 52, 57, 51, 48, 32, 54, 48, 32, 57, 48]⟩ : ByteArray).data.toList = (rcZ, 1) by kernel_rfl] at h9
  exact h9
theorem dec4 (W : World) (h : Env W) : Calls Tryd.prog 12 #[.string ⟨#[118, 32, 49, 32, 55, 32, 52, 57, 49, 53, 32, 52, 57, 51, 48, 32, 54, 48, 32, 57, 48, 32, 111, 117, 116, 32, 48]⟩] W fun e w' => e = .returned (.tuple #[.agg #[.int .i64 0, .int .i64 0, .int .i64 0, .string ⟨#[]⟩, .string ⟨#[]⟩, .int .i64 0, .int .i64 0, .int .i64 0, .int .i64 0, .bool false, .int .i64 0, .bool false], .int .i64 1]) ∧ Below W.heap.size W w' := by
  have h9 := decode_any ⟨#[118, 32, 49, 32, 55, 32, 52, 57, 49, 53, 32, 52, 57, 51, 48, 32, 54, 48, 32, 57, 48, 32, 111, 117, 116, 32, 48]⟩ W (by decide) h.idx h.tab
  unfold DecT at h9
  rw [show decT (⟨#[118, 32, 49, 32, 55, 32, 52, 57, 49, 53, 32, 52, 57, 51, 48, 32, 54, 48, 32, 57, 48, 32, 111, 117, 116, 32, 48]⟩ : ByteArray).data.toList = (rcZ, 1) by kernel_rfl] at h9
  exact h9
theorem lin1 (W : World) : Calls Tryd.prog 14 #[.string ⟨#[97]⟩] W fun e w' => e = .returned (.tuple #[.slice none 0 0, .int .i64 1]) ∧ Below W.heap.size W w' :=
  (lines_any ⟨#[97]⟩ W (by decide)).mono fun e w' h => ⟨h.1 (by kernel_rfl), h.2.2.2⟩
theorem lin2 (W : World) : Calls Tryd.prog 14 #[.string ⟨#[10]⟩] W fun e w' => ∃ g c, e = .returned (.tuple #[.slice (some ⟨g, 0, none⟩) 1 c, .int .i64 0]) ∧ w'.cell? ⟨g, 0, none⟩ = some (.string ⟨#[]⟩) ∧ Below W.heap.size W w' :=
  (lines_any ⟨#[10]⟩ W (by decide)).mono fun e w' h => by
    obtain ⟨v, ls, he, hb, -, ho⟩ := h.2.2.1 (by kernel_rfl) (by rw [show (spl 10 (⟨#[10]⟩ : ByteArray).data.toList).length = 2 by kernel_rfl]; decide)
    rw [show (spl 10 (⟨#[10]⟩ : ByteArray).data.toList).dropLast = [[]] by kernel_rfl] at hb
    obtain ⟨x, rfl⟩ : ∃ x, ls = [x] := by
      exact List.length_eq_one_iff.1 (by rw [← byt_len, hb]; rfl)
    have hx : x = ⟨#[]⟩ := ba_eq (y := ⟨#[]⟩) (by have := List.head_eq_of_cons_eq hb; exact this)
    subst hx
    obtain ⟨g, c, rfl⟩ := own_some (n := 0) ho
    obtain ⟨g2, hg, -, -, hc⟩ := row_read ho (by decide)
    obtain rfl : g = g2 := by injection hg with h1; injection h1
    exact ⟨g, c, he, hc 0 _ rfl, h.2.2.2⟩
set_option maxRecDepth 100000 in
set_option maxHeartbeats 8000000 in
theorem alive_any (w : World) (hv : Env w) : Calls Tryd.prog 9 #[] w fun e w' => e = .returned (.bool true) ∧ Below w.heap.size w w' := by
  have HV : Hid (∀ W, Below w.heap.size w W → Env W) := Lib.hid fun W h => hv.below h
  clear hv
  go_enter Tryd.func9, Tryd.ntmps9
  go_upto_region 6 with fail
  obtain ⟨X, hX⟩ : ∃ X, (w.alloc (.cells #[.int .i64 1, .int .i64 7, .int .i64 1, .string ⟨#[52, 57, 49, 53]⟩, .string ⟨#[52, 57, 51, 48]⟩, .int .i64 60, .int .i64 90, .int .i64 0, .int .i64 0, .bool false, .int .i64 0, .bool false] 23)).alloc (.cells #[.int .i64 1, .int .i64 7, .int .i64 1, .string ⟨#[52, 57, 49, 53]⟩, .string ⟨#[52, 57, 51, 48]⟩, .int .i64 60, .int .i64 90, .int .i64 3, .int .i64 2, .bool true, .int .i64 0, .bool false] 23) = X := ⟨_, rfl⟩
  rw [hX]
  have hb0 : Below w.heap.size w X := by
    rw [← hX]
    exact ((Below.refl _ w).alloc (Nat.le_refl _) _).alloc (by simp) _
  have hxa : RcB X w.heap.size r1 := by
    rw [← hX]
    exact (show RcB (w.alloc (.cells #[.int .i64 1, .int .i64 7, .int .i64 1, .string ⟨#[52, 57, 49, 53]⟩, .string ⟨#[52, 57, 51, 48]⟩, .int .i64 60, .int .i64 90, .int .i64 0, .int .i64 0, .bool false, .int .i64 0, .bool false] 23)) w.heap.size r1 from new_at w _).below ((Below.refl _ _).alloc (Nat.le_refl _) _) (by simp)
  have hxb : RcB X (w.heap.size + 1) r2 := by
    have := new_at (w.alloc (.cells #[.int .i64 1, .int .i64 7, .int .i64 1, .string ⟨#[52, 57, 49, 53]⟩, .string ⟨#[52, 57, 51, 48]⟩, .int .i64 60, .int .i64 90, .int .i64 0, .int .i64 0, .bool false, .int .i64 0, .bool false] 23)) (.cells #[.int .i64 1, .int .i64 7, .int .i64 1, .string ⟨#[52, 57, 49, 53]⟩, .string ⟨#[52, 57, 51, 48]⟩, .int .i64 60, .int .i64 90, .int .i64 3, .int .i64 2, .bool true, .int .i64 0, .bool false] 23)
    rw [World.size_alloc] at this
    rw [← hX]; exact this
  have HB0 := Lib.hid hb0; have HXA := Lib.hid hxa; have HXB := Lib.hid hxb
  clear hb0 hxa hxb hX
  obtain ⟨k0, k1, k2, k3, k4, k5, k6, k7, k8, k9, k10, k11⟩ := HXA.out.cells
  simp only [r1] at k0 k1 k2 k3 k4 k5 k6 k7 k8 k9 k10 k11
  go_wp2_with (first
    | (go_at_call 10; (with_reducible refine (enc1 _ (HV.out _ HB0.out)).mono ?_); rintro e w1 ⟨rfl, hb1⟩; have HB1 := Lib.hid (HB0.out.trans (hb1.mono HB0.out.size)); have hx := HXB.out.below hb1 (RcB.lt HXB.out); clear hb1 k0 k1 k2 k3 k4 k5 k6 k7 k8 k9 k10 k11; obtain ⟨m0, m1, m2, m3, m4, m5, m6, m7, m8, m9, m10, m11⟩ := hx.cells; simp only [r2] at m0 m1 m2 m3 m4 m5 m6 m7 m8 m9 m10 m11; clear hx)
    | (go_at_call 10; (with_reducible refine (enc2 _ (HV.out _ HB1.out)).mono ?_); rintro e w2 ⟨rfl, hb2⟩; have HB2 := Lib.hid (HB1.out.trans (hb2.mono HB1.out.size)); clear hb2 m0 m1 m2 m3 m4 m5 m6 m7 m8 m9 m10 m11)
    | (go_at_call 12; (with_reducible refine (dec1 _ (HV.out _ HB2.out)).mono ?_); rintro e w3 ⟨rfl, hb3⟩; have HX3 := Lib.hid (show RcB (w3.alloc (.cells #[.int .i64 1, .int .i64 8, .int .i64 3, .string ⟨#[52, 57, 49, 53]⟩, .string ⟨#[]⟩, .int .i64 0, .int .i64 1024, .int .i64 0, .int .i64 0, .bool false, .int .i64 0, .bool false] 23)) w3.heap.size r3 from new_at _ _); have HB3 := Lib.hid ((HB2.out.trans (hb3.mono HB2.out.size)).alloc (Nat.le_trans HB2.out.size hb3.size) (.cells #[.int .i64 1, .int .i64 8, .int .i64 3, .string ⟨#[52, 57, 49, 53]⟩, .string ⟨#[]⟩, .int .i64 0, .int .i64 1024, .int .i64 0, .int .i64 0, .bool false, .int .i64 0, .bool false] 23)); clear hb3)
    | (go_at_call 12; (with_reducible refine (dec2 _ (HV.out _ HB3.out)).mono ?_); rintro e w4 ⟨rfl, hb4⟩; have HX4 := Lib.hid ((HX3.out.below hb4 (RcB.lt HX3.out)).below (below_lit w4 (.cells #[.int .i64 0, .int .i64 0, .int .i64 0, .string ⟨#[]⟩, .string ⟨#[]⟩, .int .i64 0, .int .i64 0, .int .i64 0, .int .i64 0, .bool false, .int .i64 0, .bool false] 23)) (RcB.lt (HX3.out.below hb4 (RcB.lt HX3.out)))); have HB4 := Lib.hid ((HB3.out.trans (hb4.mono HB3.out.size)).alloc (Nat.le_trans HB3.out.size hb4.size) (.cells #[.int .i64 0, .int .i64 0, .int .i64 0, .string ⟨#[]⟩, .string ⟨#[]⟩, .int .i64 0, .int .i64 0, .int .i64 0, .int .i64 0, .bool false, .int .i64 0, .bool false] 23)); clear hb4)
    | (go_at_call 12; (with_reducible refine (dec3 _ (HV.out _ HB4.out)).mono ?_); rintro e w5 ⟨rfl, hb5⟩; have HX5 := Lib.hid ((HX4.out.below hb5 (RcB.lt HX4.out)).below (below_lit w5 (.cells #[.int .i64 0, .int .i64 0, .int .i64 0, .string ⟨#[]⟩, .string ⟨#[]⟩, .int .i64 0, .int .i64 0, .int .i64 0, .int .i64 0, .bool false, .int .i64 0, .bool false] 23)) (RcB.lt (HX4.out.below hb5 (RcB.lt HX4.out)))); have HB5 := Lib.hid ((HB4.out.trans (hb5.mono HB4.out.size)).alloc (Nat.le_trans HB4.out.size hb5.size) (.cells #[.int .i64 0, .int .i64 0, .int .i64 0, .string ⟨#[]⟩, .string ⟨#[]⟩, .int .i64 0, .int .i64 0, .int .i64 0, .int .i64 0, .bool false, .int .i64 0, .bool false] 23)); clear hb5)
    | (go_at_call 12; (with_reducible refine (dec4 _ (HV.out _ HB5.out)).mono ?_); rintro e w6 ⟨rfl, hb6⟩; have HX6 := Lib.hid ((HX5.out.below hb6 (RcB.lt HX5.out)).below (below_lit w6 (.cells #[.int .i64 0, .int .i64 0, .int .i64 0, .string ⟨#[]⟩, .string ⟨#[]⟩, .int .i64 0, .int .i64 0, .int .i64 0, .int .i64 0, .bool false, .int .i64 0, .bool false] 23)) (RcB.lt (HX5.out.below hb6 (RcB.lt HX5.out)))); have HB6 := Lib.hid ((HB5.out.trans (hb6.mono HB5.out.size)).alloc (Nat.le_trans HB5.out.size hb6.size) (.cells #[.int .i64 0, .int .i64 0, .int .i64 0, .string ⟨#[]⟩, .string ⟨#[]⟩, .int .i64 0, .int .i64 0, .int .i64 0, .int .i64 0, .bool false, .int .i64 0, .bool false] 23)); clear hb6)
    | (go_at_call 14; (with_reducible refine (lin1 _).mono ?_); rintro e w7 ⟨rfl, hb7⟩; have HX7 := Lib.hid (HX6.out.below hb7 (RcB.lt HX6.out)); have HB7 := Lib.hid (HB6.out.trans (hb7.mono HB6.out.size)); clear hb7)
    | (go_at_call 14; (with_reducible refine (lin2 _).mono ?_); rintro e w8 ⟨g, c, rfl, q0, hb8⟩; have hx8 := HX7.out.below hb8 (RcB.lt HX7.out); have HB8 := Lib.hid (HB7.out.trans (hb8.mono HB7.out.size)); clear hb8; obtain ⟨n0, n1, n2, n3, n4, n5, n6, n7, n8, n9, n10, n11⟩ := hx8.cells; simp only [r3] at n0 n1 n2 n3 n4 n5 n6 n7 n8 n9 n10 n11; have heq := eqRec_same r3; simp only [r3, Rc.cells] at heq; clear hx8))
  go_ret
  exact ⟨rfl, HB8.out⟩
end Go.Proofs.YtokdfdinnaghmaaDoor.Tx
