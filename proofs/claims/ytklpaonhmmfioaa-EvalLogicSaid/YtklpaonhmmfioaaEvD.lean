/- What the laws on units and total share: two attributes in memory, and the values of their operations. -/
import Derived.Test.YtklpaonhmmfioaaEvL1
namespace Go.Proofs.Ytklpaonhmmfioaa.Ck
open Go Go.Lib Go.RowKit Go.Proofs.Ytklpaonhmmfioaa Go.Maps

def envU (u t : Int) : En := ⟨0, u, 0, 0, t, 0, ⟨#[]⟩, ⟨#[]⟩, false⟩
def aU : Ex := eA ⟨#[117, 110, 105, 116, 115]⟩
def aT : Ex := eA ⟨#[116, 111, 116, 97, 108]⟩
/-- The attributes and the two names lie in blocks of the call. -/
def UtS (w0 : World) (u t : Int) (p5 p6 p7 : Nat) (W : World) : Prop := Below w0.heap.size w0 W ∧ Blk W p5 26 #[.int .i64 0, .int .i64 u, .int .i64 0, .int .i64 0, .int .i64 t, .int .i64 0, .string ⟨#[]⟩, .string ⟨#[]⟩, .bool false] ∧ Blk W p6 24 #[.int .i64 3, .int .i64 0, .string ⟨#[117, 110, 105, 116, 115]⟩, .slice none 0 0] ∧ Blk W p7 24 #[.int .i64 3, .int .i64 0, .string ⟨#[116, 111, 116, 97, 108]⟩, .slice none 0 0]
theorem UtS.keep {w0 W W' : World} {u t : Int} {p5 p6 p7 : Nat} (h : UtS w0 u t p5 p6 p7 W) (hb : Below W.heap.size W W') : UtS w0 u t p5 p6 p7 W' := ⟨h.1.trans (hb.mono h.1.size), h.2.1.below hb h.2.1.lt, h.2.2.1.below hb h.2.2.1.lt, h.2.2.2.below hb h.2.2.2.lt⟩
theorem UtS.drew {w0 W : World} {u t : Int} {p5 p6 p7 : Nat} (h : UtS w0 u t p5 p6 p7 W) : UtS w0 u t p5 p6 p7 W.drew := h.keep ⟨rfl, rfl, rfl, Nat.le_refl _, fun _ _ => rfl⟩
theorem UtS.cells {w0 W : World} {u t : Int} {p5 p6 p7 : Nat} (h : UtS w0 u t p5 p6 p7 W) : (W.cell? ⟨p5, 0, none⟩ = some (.int .i64 0) ∧ W.cell? ⟨p5, 1, none⟩ = some (.int .i64 u) ∧ W.cell? ⟨p5, 2, none⟩ = some (.int .i64 0) ∧ W.cell? ⟨p5, 3, none⟩ = some (.int .i64 0) ∧ W.cell? ⟨p5, 4, none⟩ = some (.int .i64 t) ∧ W.cell? ⟨p5, 5, none⟩ = some (.int .i64 0) ∧ W.cell? ⟨p5, 6, none⟩ = some (.string ⟨#[]⟩) ∧ W.cell? ⟨p5, 7, none⟩ = some (.string ⟨#[]⟩) ∧ W.cell? ⟨p5, 8, none⟩ = some (.bool false)) ∧ (W.cell? ⟨p6, 0, none⟩ = some (.int .i64 3) ∧ W.cell? ⟨p6, 1, none⟩ = some (.int .i64 0) ∧ W.cell? ⟨p6, 2, none⟩ = some (.string ⟨#[117, 110, 105, 116, 115]⟩) ∧ W.cell? ⟨p6, 3, none⟩ = some (.slice none 0 0)) ∧ W.cell? ⟨p7, 0, none⟩ = some (.int .i64 3) ∧ W.cell? ⟨p7, 1, none⟩ = some (.int .i64 0) ∧ W.cell? ⟨p7, 2, none⟩ = some (.string ⟨#[116, 111, 116, 97, 108]⟩) ∧ W.cell? ⟨p7, 3, none⟩ = some (.slice none 0 0) := ⟨nine h.2.1, four h.2.2.1, four h.2.2.2⟩
theorem utN {u t op : Int} {a b : Ex} {x : Int} {q : Bool} (hv : OV (numR (envU u t) (e2 op a b)) x q) (g d : Nat) (W : World) (h : XA W d (some ⟨g, 0, none⟩) [a, b]) : Calls Try.prog 12 #[.agg #[.int .i64 op, .int .i64 0, .string ⟨#[]⟩, .slice (some ⟨g, 0, none⟩) 2 2], .agg #[.int .i64 0, .int .i64 u, .int .i64 0, .int .i64 0, .int .i64 t, .int .i64 0, .string ⟨#[]⟩, .string ⟨#[]⟩, .bool false]] W fun e w' => e = .returned (.tuple #[.int .i64 x, .bool q]) ∧ Below W.heap.size W w' :=
  evNumber_is (v := envU u t) (op := op) (num := 0) (tx := ⟨#[]⟩) (args := [a, b]) hv (some ⟨g, 0, none⟩) d 2 2 W h rfl (Nat.le_refl _) (by decide) (by decide)
theorem utH {u t op : Int} {a b : Ex} {q : Bool} (hv : hldR (envU u t) (e2 op a b) = q) (g d : Nat) (W : World) (h : XA W d (some ⟨g, 0, none⟩) [a, b]) : Calls Try.prog 16 #[.agg #[.int .i64 op, .int .i64 0, .string ⟨#[]⟩, .slice (some ⟨g, 0, none⟩) 2 2], .agg #[.int .i64 0, .int .i64 u, .int .i64 0, .int .i64 0, .int .i64 t, .int .i64 0, .string ⟨#[]⟩, .string ⟨#[]⟩, .bool false]] W fun e w' => e = .returned (.bool q) ∧ Below W.heap.size W w' :=
  evHolds_is (v := envU u t) (op := op) (num := 0) (tx := ⟨#[]⟩) (args := [a, b]) hv (some ⟨g, 0, none⟩) d 2 2 W h rfl (Nat.le_refl _) (by decide) (by decide)
theorem ut_u (u t : Int) : numV (envU u t) aU = nb u := by
  show numV (envU u t) (.mk 3 0 ⟨#[117, 110, 105, 116, 115]⟩ []) = _
  rw [numV_name, attN, if_neg (by decide +kernel), if_pos (by decide +kernel)]; rfl
theorem ut_t (u t : Int) : numV (envU u t) aT = nb t := by
  show numV (envU u t) (.mk 3 0 ⟨#[116, 111, 116, 97, 108]⟩ []) = _
  rw [numV_name, attN, if_neg (by decide +kernel), if_neg (by decide +kernel), if_neg (by decide +kernel), if_neg (by decide +kernel), if_pos (by decide +kernel)]; rfl
theorem ut_two (v : En) {op : Int} (h : 7 ≤ op) (a b : Ex) : numV v (e2 op a b) = opO op (numV v a) (numV v b) := numV_two v (by omega) (by omega) _ _ _ _
theorem nb_in {n : Int} (h : -4611686018427387904 ≤ n ∧ n ≤ 4611686018427387904) : nb n = some n := by unfold nb; rw [if_pos h]
theorem nb_out {n : Int} (h : n < -4611686018427387904 ∨ 4611686018427387904 < n) : nb n = none := by unfold nb; rw [if_neg (by omega)]
theorem opO_left (op : Int) (y : Option Int) : opO op none y = none := by cases y <;> rfl
theorem opO_right (op : Int) (x : Option Int) : opO op x none = none := by cases x <;> rfl
theorem ut_num {u t : Int} {e : Ex} (h : sortX 16 e = (1, 0)) : numR (envU u t) e = numV (envU u t) e := by unfold numR; rw [if_pos h]
theorem ut_hld {u t : Int} {op : Int} {a b : Ex} (h : sortX 16 (e2 op a b) = (3, 0)) (h7 : 7 ≤ op) (ha : isTx a = false) : hldR (envU u t) (e2 op a b) = cmpO op (numV (envU u t) a) (numV (envU u t) b) := by
  unfold hldR; rw [if_pos h]
  show hldV (envU u t) (.mk op 0 ⟨#[]⟩ [a, b]) = _
  rw [hldV_cmp _ h7]
  unfold cmpE; rw [if_neg (by rw [ha]; decide)]
theorem cmpO_left (op : Int) (y : Option Int) : cmpO op none y = false := by cases y <;> rfl
theorem cmpO_right (op : Int) (x : Option Int) : cmpO op x none = false := by cases x <;> rfl
theorem st9 : sortX 16 (e2 9 aU aT) = (3, 0) ∧ sortX 16 (e2 9 aT aU) = (3, 0) ∧ sortX 16 (e2 7 aU aT) = (3, 0) ∧ sortX 16 (e2 8 aU aT) = (3, 0) ∧ sortX 16 (e2 10 aU aT) = (3, 0) ∧ sortX 16 (e2 10 aT aU) = (3, 0) := by decide +kernel
theorem st1 : sortX 16 (e2 14 aU aT) = (1, 0) ∧ sortX 16 (e2 15 aU aT) = (1, 0) ∧ sortX 16 (e2 11 aU aT) = (1, 0) ∧ sortX 16 (e2 11 aT aU) = (1, 0) ∧ sortX 16 (e2 12 (e2 11 aU aT) aT) = (1, 0) ∧ sortX 16 (e2 11 (e2 13 (e2 14 aU aT) aT) (e2 15 aU aT)) = (1, 0) := by decide +kernel
theorem tx_no : isTx aU = false ∧ isTx aT = false := by decide +kernel
theorem UtS.of {w0 W : World} {u t : Int} {p5 : Nat} (hb : Below w0.heap.size w0 W) (h5 : Blk W p5 26 #[.int .i64 0, .int .i64 u, .int .i64 0, .int .i64 0, .int .i64 t, .int .i64 0, .string ⟨#[]⟩, .string ⟨#[]⟩, .bool false]) : UtS w0 u t p5 W.heap.size (W.heap.size + 1) ((W.alloc (.cells #[.int .i64 3, .int .i64 0, .string ⟨#[117, 110, 105, 116, 115]⟩, .slice none 0 0] 24)).alloc (.cells #[.int .i64 3, .int .i64 0, .string ⟨#[116, 111, 116, 97, 108]⟩, .slice none 0 0] 24)) := by
  refine ⟨(hb.alloc hb.size _).alloc (by have := hb.size; simp; omega) _, (h5.alloc _).alloc _, (Blk.new _ _ _).alloc _, ?_⟩
  have h := Blk.new (W.alloc (.cells #[.int .i64 3, .int .i64 0, .string ⟨#[117, 110, 105, 116, 115]⟩, .slice none 0 0] 24)) 24 #[.int .i64 3, .int .i64 0, .string ⟨#[116, 111, 116, 97, 108]⟩, .slice none 0 0]
  rwa [show (W.alloc (.cells #[.int .i64 3, .int .i64 0, .string ⟨#[117, 110, 105, 116, 115]⟩, .slice none 0 0] 24)).heap.size = W.heap.size + 1 by simp] at h
theorem tmod_small {u t : Int} (h : t ≠ 0) : (u.tmod t).natAbs < t.natAbs := by
  rw [Int.natAbs_tmod]; exact Nat.mod_lt _ (by omega)
theorem tmod_sign {u t : Int} : (0 ≤ u → 0 ≤ u.tmod t) ∧ (u ≤ 0 → u.tmod t ≤ 0) := by
  refine ⟨fun h => Int.tmod_nonneg t h, fun h => ?_⟩
  have := Int.tmod_nonneg t (show 0 ≤ -u by omega)
  rw [Int.neg_tmod] at this
  omega
/-- The dividend again. -/
theorem div_back {u t : Int} (h : t ≠ 0) (hu : -4611686018427387904 ≤ u ∧ u ≤ 4611686018427387904) : opO 11 (opO 13 (some (u.tdiv t)) (some t)) (some (u.tmod t)) = some u := by
  have h1 := Int.mul_tdiv_add_tmod u t
  rw [Int.mul_comm] at h1
  have h2 := tmod_sign (u := u) (t := t)
  have h3 := tmod_abs u t
  have h4 : -4611686018427387904 ≤ u.tdiv t * t ∧ u.tdiv t * t ≤ 4611686018427387904 := by
    rcases Int.le_total 0 u with h5 | h5
    · have := h2.1 h5; omega
    · have := h2.2 h5; omega
  show opO 11 (opN 13 (u.tdiv t) t) (some (u.tmod t)) = some u
  rw [opN_mul, nb_in h4]
  show opN 11 (u.tdiv t * t) (u.tmod t) = some u
  rw [opN_add, h1, nb_in hu]
end Go.Proofs.Ytklpaonhmmfioaa.Ck
