/- Walk: the laws' awake. -/
import Derived.Test.YtklpaonhmmfioaaEvA
namespace Go.Proofs.Ytklpaonhmmfioaa.Ck
open Go Go.Lib Go.RowKit Go.Proofs.Ytklpaonhmmfioaa Go.Maps

theorem Op1.two {w : World} {d g : Nat} {a b : Ex} (h : XA w d (some ⟨g, 0, none⟩) [a, b]) : Op1 w d ⟨#[]⟩ (some ⟨g, 0, none⟩) 2 2 [a, b] := ⟨h, rfl, Nat.le_refl _, by decide, by decide⟩
theorem Op1.one {w : World} {d g : Nat} {a : Ex} (h : XA w d (some ⟨g, 0, none⟩) [a]) : Op1 w d ⟨#[]⟩ (some ⟨g, 0, none⟩) 1 1 [a] := ⟨h, rfl, Nat.le_refl _, by decide, by decide⟩
theorem awV1 (g : Nat) (d : Nat) (W : World) (h : XA W d (some ⟨g, 0, none⟩) [eN 0, e2 14 (eN 7) (eN 2)]) : Calls Try.prog 12 #[.agg #[.int .i64 12, .int .i64 0, .string ⟨#[]⟩, .slice (some ⟨g, 0, none⟩) 2 2], .agg #[.int .i64 0, .int .i64 0, .int .i64 0, .int .i64 0, .int .i64 0, .int .i64 0, .string ⟨#[]⟩, .string ⟨#[]⟩, .bool false]] W fun e w' => e = .returned (.tuple #[.int .i64 (-3), .bool true]) ∧ Below W.heap.size W w' :=
  evNumber_is (v := env0) (op := 12) (num := 0) (tx := ⟨#[]⟩) (args := [eN 0, e2 14 (eN 7) (eN 2)]) (show OV (numR env0 (e2 12 (eN 0) (e2 14 (eN 7) (eN 2)))) (-3) true by rw [val1]; exact ⟨rfl, rfl⟩) (some ⟨g, 0, none⟩) d 2 2 W h rfl (Nat.le_refl _) (by decide) (by decide)
theorem awV2 (g : Nat) (d : Nat) (W : World) (h : XA W d (some ⟨g, 0, none⟩) [e2 12 (eN 0) (eN 7), eN 2]) : Calls Try.prog 12 #[.agg #[.int .i64 15, .int .i64 0, .string ⟨#[]⟩, .slice (some ⟨g, 0, none⟩) 2 2], .agg #[.int .i64 0, .int .i64 0, .int .i64 0, .int .i64 0, .int .i64 0, .int .i64 0, .string ⟨#[]⟩, .string ⟨#[]⟩, .bool false]] W fun e w' => e = .returned (.tuple #[.int .i64 (-1), .bool true]) ∧ Below W.heap.size W w' :=
  evNumber_is (v := env0) (op := 15) (num := 0) (tx := ⟨#[]⟩) (args := [e2 12 (eN 0) (eN 7), eN 2]) (show OV (numR env0 (e2 15 (e2 12 (eN 0) (eN 7)) (eN 2))) (-1) true by rw [val2]; exact ⟨rfl, rfl⟩) (some ⟨g, 0, none⟩) d 2 2 W h rfl (Nat.le_refl _) (by decide) (by decide)
theorem awV3 (W : World) : Calls Try.prog 14 #[.agg #[.int .i64 3, .int .i64 0, .string ⟨#[122, 111, 110, 101]⟩, .slice none 0 0], .agg #[.int .i64 0, .int .i64 60, .int .i64 0, .int .i64 0, .int .i64 0, .int .i64 0, .string ⟨#[104, 111, 109, 101]⟩, .string ⟨#[]⟩, .bool false]] W fun e w' => e = .returned (.tuple #[.string ⟨#[104, 111, 109, 101]⟩, .bool true]) ∧ Below W.heap.size W w' :=
  evText_is (v := env1) (op := 3) (num := 0) (tx := ⟨#[122, 111, 110, 101]⟩) (args := []) val3 none 0 0 0 W (XA.nil _ _ _) rfl (Nat.le_refl _) (by decide) (by decide)
theorem awV4 (g : Nat) (d : Nat) (W : World) (h : XA W d (some ⟨g, 0, none⟩) [eN 1, e2 14 (eA ⟨#[117, 110, 105, 116, 115]⟩) (eA ⟨#[116, 111, 116, 97, 108]⟩)]) : Calls Try.prog 16 #[.agg #[.int .i64 9, .int .i64 0, .string ⟨#[]⟩, .slice (some ⟨g, 0, none⟩) 2 2], .agg #[.int .i64 0, .int .i64 60, .int .i64 0, .int .i64 0, .int .i64 0, .int .i64 0, .string ⟨#[104, 111, 109, 101]⟩, .string ⟨#[]⟩, .bool false]] W fun e w' => e = .returned (.bool false) ∧ Below W.heap.size W w' :=
  evHolds_is (v := env1) (op := 9) (num := 0) (tx := ⟨#[]⟩) (args := [eN 1, e2 14 (eA ⟨#[117, 110, 105, 116, 115]⟩) (eA ⟨#[116, 111, 116, 97, 108]⟩)]) val4 (some ⟨g, 0, none⟩) d 2 2 W h rfl (Nat.le_refl _) (by decide) (by decide)
theorem awV5 (g : Nat) (d : Nat) (W : World) (h : XA W d (some ⟨g, 0, none⟩) [e2 9 (eN 1) (e2 14 (eA ⟨#[117, 110, 105, 116, 115]⟩) (eA ⟨#[116, 111, 116, 97, 108]⟩))]) : Calls Try.prog 16 #[.agg #[.int .i64 4, .int .i64 0, .string ⟨#[]⟩, .slice (some ⟨g, 0, none⟩) 1 1], .agg #[.int .i64 0, .int .i64 60, .int .i64 0, .int .i64 0, .int .i64 0, .int .i64 0, .string ⟨#[104, 111, 109, 101]⟩, .string ⟨#[]⟩, .bool false]] W fun e w' => e = .returned (.bool true) ∧ Below W.heap.size W w' :=
  evHolds_is (v := env1) (op := 4) (num := 0) (tx := ⟨#[]⟩) (args := [e2 9 (eN 1) (e2 14 (eA ⟨#[117, 110, 105, 116, 115]⟩) (eA ⟨#[116, 111, 116, 97, 108]⟩))]) val5 (some ⟨g, 0, none⟩) d 1 1 W h rfl (Nat.le_refl _) (by decide) (by decide)
theorem awV6 (g : Nat) (d : Nat) (W : World) (h : XA W d (some ⟨g, 0, none⟩) [e2 7 (eA ⟨#[122, 111, 110, 101]⟩) (.mk 2 0 ⟨#[104, 111, 109, 101]⟩ []), e2 10 (eA ⟨#[117, 110, 105, 116, 115]⟩) (eN 60)]) : Calls Try.prog 16 #[.agg #[.int .i64 5, .int .i64 0, .string ⟨#[]⟩, .slice (some ⟨g, 0, none⟩) 2 2], .agg #[.int .i64 0, .int .i64 60, .int .i64 0, .int .i64 0, .int .i64 0, .int .i64 0, .string ⟨#[104, 111, 109, 101]⟩, .string ⟨#[]⟩, .bool false]] W fun e w' => e = .returned (.bool true) ∧ Below W.heap.size W w' :=
  evHolds_is (v := env1) (op := 5) (num := 0) (tx := ⟨#[]⟩) (args := [e2 7 (eA ⟨#[122, 111, 110, 101]⟩) (.mk 2 0 ⟨#[104, 111, 109, 101]⟩ []), e2 10 (eA ⟨#[117, 110, 105, 116, 115]⟩) (eN 60)]) val6 (some ⟨g, 0, none⟩) d 2 2 W h rfl (Nat.le_refl _) (by decide) (by decide)
def AwP (w0 : World) (p6 g6 : Nat) (W : World) : Prop := Below w0.heap.size w0 W ∧ Blk W p6 24 #[.int .i64 9, .int .i64 0, .string ⟨#[]⟩, .slice (some ⟨g6, 0, none⟩) 2 2] ∧ XA W 2 (some ⟨g6, 0, none⟩) [eN 1, e2 14 (eA ⟨#[117, 110, 105, 116, 115]⟩) (eA ⟨#[116, 111, 116, 97, 108]⟩)]
theorem AwP.keep {w0 W W' : World} {p6 g6 : Nat} (h : AwP w0 p6 g6 W) (hb : Below W.heap.size W W') : AwP w0 p6 g6 W' := ⟨h.1.trans (hb.mono h.1.size), h.2.1.below hb h.2.1.lt, h.2.2.below hb⟩
theorem AwP.new {w0 W : World} {g6 : Nat} (hb : Below w0.heap.size w0 W) (hx : XA W 2 (some ⟨g6, 0, none⟩) [eN 1, e2 14 (eA ⟨#[117, 110, 105, 116, 115]⟩) (eA ⟨#[116, 111, 116, 97, 108]⟩)]) : AwP w0 W.heap.size g6 (W.alloc (.cells #[.int .i64 9, .int .i64 0, .string ⟨#[]⟩, .slice (some ⟨g6, 0, none⟩) 2 2] 24)) := ⟨hb.alloc hb.size _, Blk.new _ _ _, hx.below (below_one _ _)⟩
def AwQ (w0 : World) (p6 g6 p7 g7 : Nat) (W : World) : Prop := Below w0.heap.size w0 W ∧ Blk W p6 24 #[.int .i64 9, .int .i64 0, .string ⟨#[]⟩, .slice (some ⟨g6, 0, none⟩) 2 2] ∧ XA W 2 (some ⟨g6, 0, none⟩) [eN 1, e2 14 (eA ⟨#[117, 110, 105, 116, 115]⟩) (eA ⟨#[116, 111, 116, 97, 108]⟩)] ∧ Blk W p7 24 #[.int .i64 7, .int .i64 0, .string ⟨#[]⟩, .slice (some ⟨g7, 0, none⟩) 2 2] ∧ XA W 1 (some ⟨g7, 0, none⟩) [eA ⟨#[122, 111, 110, 101]⟩, .mk 2 0 ⟨#[104, 111, 109, 101]⟩ []]
theorem AwQ.new {w0 W : World} {p6 g6 g7 : Nat} (h : AwP w0 p6 g6 W) (hx : XA W 1 (some ⟨g7, 0, none⟩) [eA ⟨#[122, 111, 110, 101]⟩, .mk 2 0 ⟨#[104, 111, 109, 101]⟩ []]) : AwQ w0 p6 g6 W.heap.size g7 (W.alloc (.cells #[.int .i64 7, .int .i64 0, .string ⟨#[]⟩, .slice (some ⟨g7, 0, none⟩) 2 2] 24)) :=
  ⟨h.1.alloc h.1.size _, h.2.1.alloc _, h.2.2.below (below_one _ _), Blk.new _ _ _, hx.below (below_one _ _)⟩
/-- What awake has made so far. -/
def AwS (w0 : World) (p1 g1 : Nat) (W : World) : Prop := Below w0.heap.size w0 W ∧ Blk W p1 24 #[.int .i64 12, .int .i64 0, .string ⟨#[]⟩, .slice (some ⟨g1, 0, none⟩) 2 2] ∧ XA W 1 (some ⟨g1, 0, none⟩) [eN 0, eN 7]
theorem AwS.hx {w0 W : World} {p1 g1 : Nat} (h : AwS w0 p1 g1 W) : XA W 1 (some ⟨g1, 0, none⟩) [eN 0, eN 7] := h.2.2
theorem AwS.keep {w0 W W' : World} {p1 g1 : Nat} (h : AwS w0 p1 g1 W) (hb : Below W.heap.size W W') : AwS w0 p1 g1 W' := ⟨h.1.trans (hb.mono h.1.size), h.2.1.below hb h.2.1.lt, h.2.2.below hb⟩
theorem AwS.drew {w0 W : World} {p1 g1 : Nat} (h : AwS w0 p1 g1 W) : AwS w0 p1 g1 W.drew := h.keep ⟨rfl, rfl, rfl, Nat.le_refl _, fun _ _ => rfl⟩
theorem AwS.new {w0 W : World} {g1 : Nat} (hb : Below w0.heap.size w0 W) (hx : XA W 1 (some ⟨g1, 0, none⟩) [eN 0, eN 7]) : AwS w0 W.heap.size g1 (W.alloc (.cells #[.int .i64 12, .int .i64 0, .string ⟨#[]⟩, .slice (some ⟨g1, 0, none⟩) 2 2] 24)) := ⟨hb.alloc hb.size _, Blk.new _ _ _, hx.below (below_one _ _)⟩
def AwT (w0 : World) (p6 g6 p7 g7 p8 : Nat) (W : World) : Prop := Below w0.heap.size w0 W ∧ Blk W p6 24 #[.int .i64 9, .int .i64 0, .string ⟨#[]⟩, .slice (some ⟨g6, 0, none⟩) 2 2] ∧ XA W 2 (some ⟨g6, 0, none⟩) [eN 1, e2 14 (eA ⟨#[117, 110, 105, 116, 115]⟩) (eA ⟨#[116, 111, 116, 97, 108]⟩)] ∧ Blk W p7 24 #[.int .i64 7, .int .i64 0, .string ⟨#[]⟩, .slice (some ⟨g7, 0, none⟩) 2 2] ∧ XA W 1 (some ⟨g7, 0, none⟩) [eA ⟨#[122, 111, 110, 101]⟩, .mk 2 0 ⟨#[104, 111, 109, 101]⟩ []] ∧ Blk W p8 26 #[.int .i64 0, .int .i64 60, .int .i64 0, .int .i64 0, .int .i64 0, .int .i64 0, .string ⟨#[104, 111, 109, 101]⟩, .string ⟨#[]⟩, .bool false]
theorem AwT.h6 {w0 W : World} {p6 g6 p7 g7 p8 : Nat} (h : AwT w0 p6 g6 p7 g7 p8 W) : XA W 2 (some ⟨g6, 0, none⟩) [eN 1, e2 14 (eA ⟨#[117, 110, 105, 116, 115]⟩) (eA ⟨#[116, 111, 116, 97, 108]⟩)] := h.2.2.1
theorem AwT.h7 {w0 W : World} {p6 g6 p7 g7 p8 : Nat} (h : AwT w0 p6 g6 p7 g7 p8 W) : XA W 1 (some ⟨g7, 0, none⟩) [eA ⟨#[122, 111, 110, 101]⟩, .mk 2 0 ⟨#[104, 111, 109, 101]⟩ []] := h.2.2.2.2.1
theorem AwT.cells {w0 W : World} {p6 g6 p7 g7 p8 : Nat} (h : AwT w0 p6 g6 p7 g7 p8 W) : (W.cell? ⟨p6, 0, none⟩ = some (.int .i64 9) ∧ W.cell? ⟨p6, 1, none⟩ = some (.int .i64 0) ∧ W.cell? ⟨p6, 2, none⟩ = some (.string ⟨#[]⟩) ∧ W.cell? ⟨p6, 3, none⟩ = some (.slice (some ⟨g6, 0, none⟩) 2 2)) ∧ (W.cell? ⟨p7, 0, none⟩ = some (.int .i64 7) ∧ W.cell? ⟨p7, 1, none⟩ = some (.int .i64 0) ∧ W.cell? ⟨p7, 2, none⟩ = some (.string ⟨#[]⟩) ∧ W.cell? ⟨p7, 3, none⟩ = some (.slice (some ⟨g7, 0, none⟩) 2 2)) ∧ W.cell? ⟨p8, 0, none⟩ = some (.int .i64 0) ∧ W.cell? ⟨p8, 1, none⟩ = some (.int .i64 60) ∧ W.cell? ⟨p8, 2, none⟩ = some (.int .i64 0) ∧ W.cell? ⟨p8, 3, none⟩ = some (.int .i64 0) ∧ W.cell? ⟨p8, 4, none⟩ = some (.int .i64 0) ∧ W.cell? ⟨p8, 5, none⟩ = some (.int .i64 0) ∧ W.cell? ⟨p8, 6, none⟩ = some (.string ⟨#[104, 111, 109, 101]⟩) ∧ W.cell? ⟨p8, 7, none⟩ = some (.string ⟨#[]⟩) ∧ W.cell? ⟨p8, 8, none⟩ = some (.bool false) :=
  ⟨four h.2.1, four h.2.2.2.1, nine h.2.2.2.2.2⟩
theorem AwT.new {w0 W : World} {p6 g6 p7 g7 : Nat} (h : AwQ w0 p6 g6 p7 g7 W) : AwT w0 p6 g6 p7 g7 W.heap.size (W.alloc (.cells #[.int .i64 0, .int .i64 60, .int .i64 0, .int .i64 0, .int .i64 0, .int .i64 0, .string ⟨#[104, 111, 109, 101]⟩, .string ⟨#[]⟩, .bool false] 26)) :=
  ⟨h.1.alloc h.1.size _, h.2.1.alloc _, h.2.2.1.below (below_one _ _), h.2.2.2.1.alloc _, h.2.2.2.2.below (below_one _ _), Blk.new _ _ _⟩
theorem AwT.keep {w0 W W' : World} {p6 g6 p7 g7 p8 : Nat} (h : AwT w0 p6 g6 p7 g7 p8 W) (hb : Below W.heap.size W W') : AwT w0 p6 g6 p7 g7 p8 W' :=
  ⟨h.1.trans (hb.mono h.1.size), h.2.1.below hb h.2.1.lt, h.2.2.1.below hb, h.2.2.2.1.below hb h.2.2.2.1.lt, h.2.2.2.2.1.below hb, h.2.2.2.2.2.below hb h.2.2.2.2.2.lt⟩
theorem AwT.drew {w0 W : World} {p6 g6 p7 g7 p8 : Nat} (h : AwT w0 p6 g6 p7 g7 p8 W) : AwT w0 p6 g6 p7 g7 p8 W.drew := h.keep ⟨rfl, rfl, rfl, Nat.le_refl _, fun _ _ => rfl⟩
set_option maxRecDepth 100000 in
set_option maxHeartbeats 32000000 in
theorem awake_any (w : World) : Calls Try.prog 11 #[] w fun e w' => e = .returned (.bool true) ∧ Below w.heap.size w w' := by
  have HNUM := Lib.hid (fun n W => num_is n W)
  have HNAM := Lib.hid (fun n W => name_is n W)
  have HV1 := Lib.hid (fun g d W h => awV1 g d W h)
  have HV2 := Lib.hid (fun g d W h => awV2 g d W h)
  have HV3 := Lib.hid (fun W => awV3 W)
  have HV4 := Lib.hid (fun g d W h => awV4 g d W h)
  have HV5 := Lib.hid (fun g d W h => awV5 g d W h)
  have HV6 := Lib.hid (fun g d W h => awV6 g d W h)
  have ST := Lib.hid (Below.refl w.heap.size w)
  go_enter Try.func11, Try.ntmps11
  go_upto_region 2 with (first
    | (go_at_call 23; (with_reducible refine (HNUM.out _ _).mono ?_); rintro e wn ⟨rfl, hb⟩; replace ST := Lib.hid (ST.out.trans (hb.mono ST.out.size)); clear hb)
    | (go_at_call 19; (with_reducible refine (two_is 12 _ _ _ _ _ _ _ _ _ _ _ _ _ (Op1.leaf _ 0 _ (by decide)) (Op1.leaf _ 0 _ (by decide))).mono ?_); rintro e wn ⟨g1, rfl, hx, hb⟩; replace ST := Lib.hid (ST.out.trans (hb.mono ST.out.size)); have HX := Lib.hid hx; clear hb hx))
  have hst := AwS.new ST.out HX.out
  obtain ⟨p1, hp⟩ : ∃ p, wn.heap.size = p := ⟨_, rfl⟩
  rw [hp] at hst ⊢
  generalize wn.alloc (.cells #[.int .i64 12, .int .i64 0, .string ⟨#[]⟩, .slice (some ⟨g1, 0, none⟩) 2 2] 24) = L1 at hst ⊢
  replace ST := Lib.hid hst
  clear hst hp HX
  go_upto_region 3 with (first
    | (go_at_call 23; (with_reducible refine (HNUM.out _ _).mono ?_); rintro e wn ⟨rfl, hb⟩; replace ST := Lib.hid (ST.out.keep hb); clear hb)
    | (go_at_call 19; (with_reducible refine (two_is 14 _ _ _ _ _ _ _ _ _ _ _ _ _ (Op1.leaf _ 0 _ (by decide)) (Op1.leaf _ 0 _ (by decide))).mono ?_); rintro e wn ⟨g, rfl, hx, hb⟩; replace ST := Lib.hid (ST.out.keep hb); have HXA := Lib.hid hx; clear hb hx)
    | (go_at_call 19; (with_reducible refine (two_is 12 _ _ _ _ _ _ _ _ _ _ _ _ _ (Op1.leaf _ 1 _ (by decide)) (Op1.two HXA.out)).mono ?_); rintro e wn ⟨g, rfl, hx, hb⟩; replace ST := Lib.hid (ST.out.keep hb); have HXB := Lib.hid hx; clear hb hx)
    | (go_at_call 12; (with_reducible refine (HV1.out _ 2 _ HXB.out).mono ?_); rintro e wn ⟨rfl, hb⟩; replace ST := Lib.hid (ST.out.keep hb); clear hb))
  clear HXA HXB HV1
  have STD := Lib.hid ST.out.drew
  obtain ⟨k0, k1, k2, k3⟩ := four ST.out.2.1
  go_region_held3 (fun w' => w'.cell? ⟨p1, 0, none⟩ = some (.int .i64 12) ∧ w'.cell? ⟨p1, 1, none⟩ = some (.int .i64 0) ∧ w'.cell? ⟨p1, 2, none⟩ = some (.string ⟨#[]⟩) ∧ w'.cell? ⟨p1, 3, none⟩ = some (.slice (some ⟨g1, 0, none⟩) 2 2))
    (first | exact four ST.out.2.1 | exact four STD.out.2.1 | go_keep)
    (first
      | (go_at_call 23; (with_reducible refine (HNUM.out _ _).mono ?_); rintro e wn ⟨rfl, hb⟩; replace ST := Lib.hid (STD.out.keep hb); clear hb)
      | (go_at_call 19; (with_reducible refine (two_is 15 _ _ _ _ _ _ _ _ _ _ _ _ _ (Op1.two ST.out.hx) (Op1.leaf _ 1 _ (by decide))).mono ?_); rintro e wn ⟨g, rfl, hx, hb⟩; replace ST := Lib.hid (ST.out.keep hb); have HXA := Lib.hid hx; clear hb hx)
      | (go_at_call 12; (with_reducible refine (HV2.out _ 2 _ HXA.out).mono ?_); rintro e wn ⟨rfl, hb⟩; replace ST := Lib.hid (ST.out.keep hb); clear hb))
  clear HXA HV2 STD k0 k1 k2 k3
  replace ST := Lib.hid ST.out.1
  go_upto_region 5 with (first
    | (go_at_call 23; (with_reducible refine (HNUM.out _ _).mono ?_); rintro e wn ⟨rfl, hb⟩; replace ST := Lib.hid (ST.out.trans (hb.mono ST.out.size)); clear hb)
    | (go_at_call 18; (with_reducible refine (HNAM.out _ _).mono ?_); rintro e wn ⟨rfl, hb⟩; replace ST := Lib.hid (ST.out.trans (hb.mono ST.out.size)); clear hb)
    | (go_at_call 19; (with_reducible refine (two_is 14 _ _ _ _ _ _ _ _ _ _ _ _ _ (Op1.leaf _ 0 _ (by decide)) (Op1.leaf _ 0 _ (by decide))).mono ?_); rintro e wn ⟨g, rfl, hx, hb⟩; replace ST := Lib.hid (ST.out.trans (hb.mono ST.out.size)); have HXA := Lib.hid hx; clear hb hx)
    | (go_at_call 19; (with_reducible refine (two_is 9 _ _ _ _ _ _ _ _ _ _ _ _ _ (Op1.leaf _ 1 _ (by decide)) (Op1.two HXA.out)).mono ?_); rintro e wn ⟨g, rfl, hx, hb⟩; replace ST := Lib.hid (ST.out.trans (hb.mono ST.out.size)); have HXB := Lib.hid hx; clear hb hx))
  have hst := AwP.new ST.out HXB.out
  obtain ⟨p6, hp⟩ : ∃ p, wn.heap.size = p := ⟨_, rfl⟩
  rw [hp] at hst ⊢
  generalize wn.alloc (.cells #[.int .i64 9, .int .i64 0, .string ⟨#[]⟩, .slice (some ⟨g, 0, none⟩) 2 2] 24) = L4 at hst ⊢
  replace ST := Lib.hid hst
  clear hst hp HXA HXB
  go_upto_region 6 with (first
    | (go_at_call 18; (with_reducible refine (HNAM.out _ _).mono ?_); rintro e wn ⟨rfl, hb⟩; replace ST := Lib.hid (ST.out.keep hb); clear hb)
    | (go_at_call 19; (with_reducible refine (two_is 7 _ _ _ _ _ _ _ _ _ _ _ _ _ (Op1.leaf _ 0 _ (by decide)) (Op1.leaf _ 0 _ (by decide))).mono ?_); rintro e wn ⟨g7, rfl, hx, hb⟩; replace ST := Lib.hid (ST.out.keep hb); have HXA := Lib.hid hx; clear hb hx))
  have hst := AwQ.new ST.out HXA.out
  obtain ⟨p7, hp⟩ : ∃ p, wn.heap.size = p := ⟨_, rfl⟩
  rw [hp] at hst ⊢
  generalize wn.alloc (.cells #[.int .i64 7, .int .i64 0, .string ⟨#[]⟩, .slice (some ⟨g7, 0, none⟩) 2 2] 24) = L5 at hst ⊢
  replace ST := Lib.hid hst
  clear hst hp HXA
  go_upto_region 7 with fail
  have hst := AwT.new ST.out
  obtain ⟨p8, hp⟩ : ∃ p, L5.heap.size = p := ⟨_, rfl⟩
  rw [hp] at hst ⊢
  generalize L5.alloc (.cells #[.int .i64 0, .int .i64 60, .int .i64 0, .int .i64 0, .int .i64 0, .int .i64 0, .string ⟨#[104, 111, 109, 101]⟩, .string ⟨#[]⟩, .bool false] 26) = L6 at hst ⊢
  replace ST := Lib.hid hst
  clear hst hp
  have STD := Lib.hid ST.out.drew
  obtain ⟨⟨k0, k1, k2, k3⟩, ⟨l0, l1, l2, l3⟩, d0, d1, d2, d3, d4, d5, d6, d7, d8⟩ := ST.out.cells
  go_region_held3 (fun w' => w'.cell? ⟨p8, 0, none⟩ = some (.int .i64 0) ∧ w'.cell? ⟨p8, 1, none⟩ = some (.int .i64 60) ∧ w'.cell? ⟨p8, 2, none⟩ = some (.int .i64 0) ∧ w'.cell? ⟨p8, 3, none⟩ = some (.int .i64 0) ∧ w'.cell? ⟨p8, 4, none⟩ = some (.int .i64 0) ∧ w'.cell? ⟨p8, 5, none⟩ = some (.int .i64 0) ∧ w'.cell? ⟨p8, 6, none⟩ = some (.string ⟨#[104, 111, 109, 101]⟩) ∧ w'.cell? ⟨p8, 7, none⟩ = some (.string ⟨#[]⟩) ∧ w'.cell? ⟨p8, 8, none⟩ = some (.bool false))
    (first | exact ST.out.cells.2.2 | exact STD.out.cells.2.2 | go_keep)
    (first
      | (go_at_call 18; (with_reducible refine (HNAM.out _ _).mono ?_); rintro e wn ⟨rfl, hb⟩; replace ST := Lib.hid (STD.out.keep hb); clear hb)
      | (go_at_call 14; (with_reducible refine (HV3.out _).mono ?_); rintro e wn ⟨rfl, hb⟩; replace ST := Lib.hid (ST.out.keep hb); clear hb))
  clear STD HV3 k0 k1 k2 k3 l0 l1 l2 l3 d0 d1 d2 d3 d4 d5 d6 d7 d8
  have STD := Lib.hid ST.out.drew
  obtain ⟨⟨k0, k1, k2, k3⟩, ⟨l0, l1, l2, l3⟩, d0, d1, d2, d3, d4, d5, d6, d7, d8⟩ := ST.out.cells
  go_wp2_with fail
  go_region_held3 (fun w' => (w'.cell? ⟨p6, 0, none⟩ = some (.int .i64 9) ∧ w'.cell? ⟨p6, 1, none⟩ = some (.int .i64 0) ∧ w'.cell? ⟨p6, 2, none⟩ = some (.string ⟨#[]⟩) ∧ w'.cell? ⟨p6, 3, none⟩ = some (.slice (some ⟨g, 0, none⟩) 2 2)) ∧ (w'.cell? ⟨p7, 0, none⟩ = some (.int .i64 7) ∧ w'.cell? ⟨p7, 1, none⟩ = some (.int .i64 0) ∧ w'.cell? ⟨p7, 2, none⟩ = some (.string ⟨#[]⟩) ∧ w'.cell? ⟨p7, 3, none⟩ = some (.slice (some ⟨g7, 0, none⟩) 2 2)) ∧ w'.cell? ⟨p8, 0, none⟩ = some (.int .i64 0) ∧ w'.cell? ⟨p8, 1, none⟩ = some (.int .i64 60) ∧ w'.cell? ⟨p8, 2, none⟩ = some (.int .i64 0) ∧ w'.cell? ⟨p8, 3, none⟩ = some (.int .i64 0) ∧ w'.cell? ⟨p8, 4, none⟩ = some (.int .i64 0) ∧ w'.cell? ⟨p8, 5, none⟩ = some (.int .i64 0) ∧ w'.cell? ⟨p8, 6, none⟩ = some (.string ⟨#[104, 111, 109, 101]⟩) ∧ w'.cell? ⟨p8, 7, none⟩ = some (.string ⟨#[]⟩) ∧ w'.cell? ⟨p8, 8, none⟩ = some (.bool false))
    (first | exact ST.out.cells | exact STD.out.cells | go_keep)
    (first
      | (go_at_call 16; (with_reducible refine (HV4.out _ 2 _ STD.out.h6).mono ?_); rintro e wn ⟨rfl, hb⟩; replace ST := Lib.hid (STD.out.keep hb); clear hb)
      | (go_at_call 21; (with_reducible refine (not_is _ _ _ _ _ _ _ (Op1.two ST.out.h6)).mono ?_); rintro e wn ⟨gn, rfl, hx, hb⟩; replace ST := Lib.hid (ST.out.keep hb); have HXN := Lib.hid hx; clear hb hx)
      | (go_at_call 16; (with_reducible refine (HV5.out _ 3 _ HXN.out).mono ?_); rintro e wn ⟨rfl, hb⟩; replace ST := Lib.hid (ST.out.keep hb); clear hb)
      | (go_at_call 18; (with_reducible refine (HNAM.out _ _).mono ?_); rintro e wn ⟨rfl, hb⟩; replace ST := Lib.hid (ST.out.keep hb); clear hb)
      | (go_at_call 23; (with_reducible refine (HNUM.out _ _).mono ?_); rintro e wn ⟨rfl, hb⟩; replace ST := Lib.hid (ST.out.keep hb); clear hb)
      | (go_at_call 19; (with_reducible refine (two_is 10 _ _ _ _ _ _ _ _ _ _ _ _ _ (Op1.leaf _ 0 _ (by decide)) (Op1.leaf _ 0 _ (by decide))).mono ?_); rintro e wn ⟨g9, rfl, hx, hb⟩; replace ST := Lib.hid (ST.out.keep hb); have HXA := Lib.hid hx; clear hb hx)
      | (go_at_call 19; (with_reducible refine (two_is 5 _ _ _ _ _ _ _ _ _ _ _ _ _ (Op1.two ST.out.h7) (Op1.two HXA.out)).mono ?_); rintro e wn ⟨g10, rfl, hx, hb⟩; replace ST := Lib.hid (ST.out.keep hb); have HXB := Lib.hid hx; clear hb hx)
      | (go_at_call 16; (with_reducible refine (HV6.out _ 2 _ HXB.out).mono ?_); rintro e wn ⟨rfl, hb⟩; replace ST := Lib.hid (ST.out.keep hb); clear hb))
  go_wp2_with fail
  go_ret
  exact ⟨rfl, ST.out.1⟩
end Go.Proofs.Ytklpaonhmmfioaa.Ck
