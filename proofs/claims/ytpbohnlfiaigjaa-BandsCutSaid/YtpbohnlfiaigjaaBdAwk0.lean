/- The chapter's examples: values; equal pieces. -/
import Derived.Test.YtpbohnlfiaigjaaBdSec
namespace Go.Proofs.Ytpbohnlfiaigjaa
open Go.RowKit

theorem eqPiece_same (m : ByteArray) (a b : Int) (w : World) : (binOp .eql 45 (.agg #[.string m, .int .i64 a, .int .i64 b]) (.agg #[.string m, .int .i64 a, .int .i64 b])).run Try.prog w = .ok (.bool true) w := by
  have u3 := Try.underlying3
  have a3 := Try.isAgg3
  have z3 := Try.sizeOf3
  have u4 := Try.underlying9
  have a4 := Try.isAgg9
  have z4 := Try.sizeOf9
  have hS : Try.prog.underlying 45 = some (.struct (Try.prog.fieldsOf 45)) := by kernel_rfl
  have hp : Try.prog.stoodInHeld 45 = false := by kernel_rfl
  have hS2 : Try.prog.underlying 37 = some (.struct (Try.prog.fieldsOf 37)) := by kernel_rfl
  have hp2 : Try.prog.stoodInHeld 37 = false := by kernel_rfl
  have aP := Try.isAgg37
  have zP := Try.sizeOf37
  rw [run_eql_struct]
  obtain ⟨d, hd⟩ : ∃ d, 10000 = d + 1 + 1 + 1 + 1 := ⟨9996, rfl⟩
  rw [hd, run_equalIn_agg w (d + 1 + 1 + 1) 45 _ _ hS hp]
  have h2 : ∀ xs ys, (Op.equalIn (d + 1 + 1 + 1) 37 (.agg xs) (.agg ys)).run Try.prog w = (Op.eqFields (d + 1 + 1) xs ys (Try.prog.fieldsOf 37).toList).run Try.prog w := fun xs ys => run_equalIn_agg w (d + 1 + 1) 37 xs ys hS2 hp2
  simp only [Program.fieldsOf, Try.underlying45, Try.underlying37] at h2 ⊢
  clear hd hS hS2 hp hp2
  go_simp
theorem neqPiece_same (m : ByteArray) (a b : Int) (w : World) : (binOp .neq 45 (.agg #[.string m, .int .i64 a, .int .i64 b]) (.agg #[.string m, .int .i64 a, .int .i64 b])).run Try.prog w = .ok (.bool false) w := by
  have u3 := Try.underlying3
  have a3 := Try.isAgg3
  have z3 := Try.sizeOf3
  have u4 := Try.underlying9
  have a4 := Try.isAgg9
  have z4 := Try.sizeOf9
  have hS : Try.prog.underlying 45 = some (.struct (Try.prog.fieldsOf 45)) := by kernel_rfl
  have hp : Try.prog.stoodInHeld 45 = false := by kernel_rfl
  have hS2 : Try.prog.underlying 37 = some (.struct (Try.prog.fieldsOf 37)) := by kernel_rfl
  have hp2 : Try.prog.stoodInHeld 37 = false := by kernel_rfl
  have aP := Try.isAgg37
  have zP := Try.sizeOf37
  rw [run_neq_struct]
  obtain ⟨d, hd⟩ : ∃ d, 10000 = d + 1 + 1 + 1 + 1 := ⟨9996, rfl⟩
  rw [hd, run_equalIn_agg w (d + 1 + 1 + 1) 45 _ _ hS hp]
  have h2 : ∀ xs ys, (Op.equalIn (d + 1 + 1 + 1) 37 (.agg xs) (.agg ys)).run Try.prog w = (Op.eqFields (d + 1 + 1) xs ys (Try.prog.fieldsOf 37).toList).run Try.prog w := fun xs ys => run_equalIn_agg w (d + 1 + 1) 37 xs ys hS2 hp2
  simp only [Program.fieldsOf, Try.underlying45, Try.underlying37] at h2 ⊢
  clear hd hS hS2 hp hp2
  go_simp
theorem guardPiece : Try.prog.eqGuardType Try.prog.depth 45 = false := by kernel_rfl
def sWork : ByteArray := ⟨#[119, 111, 114, 107]⟩
def sFree : ByteArray := ⟨#[102, 114, 101, 101]⟩
/-- The list of the chapter's examples. -/
def wk : List Bd := [(sWork, [(31, 480, 1080)]), (sFree, [])]
def pcs : List Pc := [(sFree, 172800, 201600), (sWork, 201600, 237600), (sFree, 237600, 259200)]
theorem wk_ck : ckB wk = 0 := by decide +kernel
theorem wk_bad : ckB [(sFree, []), (sWork, [(31, 480, 1080)])] = 8 := by decide +kernel
theorem wk_ok : ∀ d ∈ wk, ∀ s ∈ d.2, okS s = true := (ckB_0 wk_ck).2.2.2.2
theorem wk_cut : cutW wk [] 172800 259200 = pcs := by
  have hv : vl (172800, 259200) = true := by decide
  rw [cutW_yes wk_ck hv (by decide), ← mrg_cut [] wk_ok (N := 1) hv (by decide)]
  decide +kernel
theorem wk_at1 : atW wk [] 201600 = sWork := by decide +kernel
theorem wk_at2 : atW wk [] 201599 = sFree := by decide +kernel
theorem wk_at3 : atW wk [2] 201600 = sFree := by decide +kernel
theorem wk_sec : secs (cutW wk [] 172800 259200) sWork = 36000 := by rw [wk_cut]; decide +kernel
/-- A block of two bands, the first with a slot or none. -/
theorem bd_two {w : World} {g : Nat} {t : TypeId} {x y : ByteArray} {S S' : Option Addr} {n n' c c' : Nat} {ss ss' : List Sl} (h : Blk w g t #[.string x, .slice S n c, .string y, .slice S' n' c']) (h1 : ss.length = n) (h2 : n ≤ c) (h3 : c ≤ maxLen) (h4 : SlR w S ss)
    (h5 : ss'.length = n') (h6 : n' ≤ c') (h7 : c' ≤ maxLen) (h8 : SlR w S' ss') (h9 : x.size ≤ maxLen) (h10 : y.size ≤ maxLen) : BdR w (some ⟨g, 0, none⟩) [(x, ss), (y, ss')] := fun k hk => by
  subst h1 h5
  match k, hk with
  | 0, _ => exact ⟨g, 0, S, c, rfl, h.lt, h.cell 0, h.cell 1, h2, h3, h4, h9⟩
  | 1, _ => exact ⟨g, 0, S', c', rfl, h.lt, h.cell 2, h.cell 3, h6, h7, h8, h10⟩
theorem sl_one {w : World} {g : Nat} {t : TypeId} {a b c : Int} (h : Blk w g t #[.int .i64 a, .int .i64 b, .int .i64 c]) : SlR w (some ⟨g, 0, none⟩) [(a, b, c)] := fun k hk => by
  match k, hk with
  | 0, _ => exact ⟨g, 0, rfl, h.lt, h.cell 0, h.cell 1, h.cell 2⟩
theorem week_any (w : World) : Calls Try.prog 43 #[] w fun e w' => ∃ g h, e = .returned (.slice (some ⟨g, 0, none⟩) 2 2) ∧ Blk w' h 88 #[.int .i64 31, .int .i64 480, .int .i64 1080] ∧ Blk w' g 25 #[.string sWork, .slice (some ⟨h, 0, none⟩) 1 1, .string sFree, .slice none 0 0] ∧ Below w.heap.size w w' := by
  go_enter Try.func43, Try.ntmps43
  go_wp2
  go_ret
  have h1 := (Blk.new w 88 #[.int .i64 31, .int .i64 480, .int .i64 1080]).alloc (.cells #[.string sWork, .slice (some ⟨w.heap.size, 0, none⟩) 1 1, .string sFree, .slice none 0 0] 25)
  have h2 := Blk.new (w.alloc (.cells #[.int .i64 31, .int .i64 480, .int .i64 1080] 88)) 25 #[.string sWork, .slice (some ⟨w.heap.size, 0, none⟩) 1 1, .string sFree, .slice none 0 0]
  rw [show (w.alloc (.cells #[.int .i64 31, .int .i64 480, .int .i64 1080] 88)).heap.size = w.heap.size + 1 by simp] at h2
  exact ⟨w.heap.size + 1, w.heap.size, rfl, h1, h2, ((Below.refl _ w).alloc (Nat.le_refl _) _).alloc (by simp) _⟩
end Go.Proofs.Ytpbohnlfiaigjaa
