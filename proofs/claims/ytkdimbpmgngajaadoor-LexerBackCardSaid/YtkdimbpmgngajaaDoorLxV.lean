/- The cursor of the lexer, and its functions of one byte. -/
import Derived.Test.YtkdimbpmgngajaaDoorRows
import Derived.Test.YtkdimbpmgngajaaDoorLxM
import Derived.Test.YtkdimbpmgngajaaDoorLawKit
import Derived.Deep.QuietTactic
import Derived.BigQuiet
import Derived.Deep.Cut
import Derived.Deep.Quiet
import Derived.Lib.Hide
namespace Go.Proofs.YtkdimbpmgngajaaDoor.Lx
open Go Go.Lib Go.RowKit Go.Proofs.YtkdimbpmgngajaaDoor

theorem ret_bool {a b : Bool} (h : a = b) : Ending.returned (.bool a) = .returned (.bool b) := by rw [h]
theorem ret_byte {a b : Int} (h : a = b) : Ending.returned (.int .u8 a) = .returned (.int .u8 b) := by rw [h]
theorem ba_ext {a b : ByteArray} (h : a.data.toList = b.data.toList) : a = b := by
  obtain ⟨⟨a⟩⟩ := a
  obtain ⟨⟨b⟩⟩ := b
  have : a = b := h
  rw [this]
theorem gr_set (w : World) (g i : Nat) (u : Value) : w.grownBy (w.setCell ⟨g, i, none⟩ u) (some g) :=
  ⟨rfl, rfl, rfl, by simp [World.setCell], fun k _ hk => Below.heap_setCell _ _ _ _ (fun e => hk (by rw [e]))⟩
theorem gr_tr {a b c : World} {row : Option Nat} (h : a.grownBy b row) (k : b.grownBy c row) : a.grownBy c row :=
  ⟨k.os.trans h.os, k.tape.trans h.tape, k.output.trans h.output, Nat.le_trans h.size k.size, fun i hi hr => (k.block i (Nat.lt_of_lt_of_le hi h.size) hr).trans (h.block i hi hr)⟩
theorem gr_be {a b : World} {row : Option Nat} (h : Below a.heap.size a b) : a.grownBy b row := ⟨h.os, h.tape, h.output, h.size, fun k hk _ => h.block k hk⟩
theorem gr_re (w : World) (row : Option Nat) : w.grownBy w row := ⟨rfl, rfl, rfl, Nat.le_refl _, fun _ _ _ => rfl⟩
theorem gr_dr (w : World) (row : Option Nat) (n : Nat) : w.grownBy (w.drewN n) row := ⟨rfl, rfl, rfl, Nat.le_refl _, fun _ _ _ => rfl⟩
/-- The cursor in block g stands before the last bytes r of s. -/
structure Cur (w : World) (g : Nat) (s : ByteArray) (p : Nat) (r : Wd) : Prop where
  blk : w.heap[g]? = some (.cells #[.string s, .int .i64 p] 50 (0, 0))
  len : p + r.length = s.size
  rst : s.data.toList.drop p = r
  sz : s.size ≤ maxLen
section
variable {w w' : World} {g p : Nat} {s : ByteArray} {r : Wd}
theorem Cur.lt (h : Cur w g s p r) : g < w.heap.size := (Array.getElem?_eq_some_iff.1 h.blk).1
theorem Cur.cells (h : Cur w g s p r) : w.cell? ⟨g, 0, none⟩ = some (.string s) ∧ w.cell? ⟨g, 1, none⟩ = some (.int .i64 p) ∧ w.frozen? ⟨g, 0, none⟩ = false ∧ w.frozen? ⟨g, 1, none⟩ = false := by
  have := h.blk
  simp [World.cell?, World.frozen?, this]
theorem Cur.keep (h : Cur w g s p r) (hb : w'.heap[g]? = w.heap[g]?) : Cur w' g s p r := ⟨hb.trans h.blk, h.len, h.rst, h.sz⟩
theorem Cur.drew (h : Cur w g s p r) (n : Nat) : Cur (w.drewN n) g s p r := h.keep rfl
theorem Cur.below (h : Cur w g s p r) (hb : Below w.heap.size w w') : Cur w' g s p r := h.keep (hb.block g h.lt)
theorem Cur.far {g' : Nat} (h : Cur w g s p r) (hb : w.grownBy w' (some g')) (hne : g ≠ g') : Cur w' g s p r := h.keep (hb.block g h.lt (fun e => hne (Option.some.inj e)))
theorem drop_at {p : Nat} (h : p < s.size) : s.data.toList.drop p = s[p] :: s.data.toList.drop (p + 1) := by
  rw [List.drop_eq_getElem_cons (by simpa using h)]
  congr 1
theorem Cur.head {b : UInt8} {t : Wd} (h : Cur w g s p (b :: t)) : ∃ h : p < s.size, s[p] = b := by
  have h1 := h.len
  have h2 : p < s.size := by simp at h1; omega
  refine ⟨h2, ?_⟩
  have h3 := h.rst
  rw [drop_at h2] at h3
  exact (List.cons.inj h3).1
/-- The cursor after n bytes more. -/
theorem Cur.set (h : Cur w g s p r) (n : Nat) (hn : n ≤ r.length) : Cur (w.setCell ⟨g, 1, none⟩ (.int .i64 ((p + n : Nat) : Int))) g s (p + n) (r.drop n) where
  blk := by have := h.blk; simp [World.setCell, Array.getElem?_modify, this]
  len := by have := h.len; rw [List.length_drop]; omega
  rst := by rw [← h.rst, List.drop_drop]
  sz := h.sz
end
/-- What a function of the cursor leaves. -/
def CO (w w' : World) (g : Nat) (s : ByteArray) (p : Nat) (r : Wd) : Prop := Cur w' g s p r ∧ w.grownBy w' (some g)
theorem CO.trans {a b c : World} {g p p' : Nat} {s : ByteArray} {r r' : Wd} (h : CO a b g s p r) (k : CO b c g s p' r') : CO a c g s p' r' := ⟨k.1, gr_tr h.2 k.2⟩
def hdB : Wd → UInt8
  | [] => 0
  | b :: _ => b
/-- A function of one byte. -/
abbrev Byt (f : FuncId) (q : UInt8 → Bool) : Prop := ∀ (b : UInt8) (W : World), Calls Tryd.prog f #[.int .u8 (b.toNat : Int)] W fun e w' => e = .returned (.bool (q b)) ∧ w' = W
theorem lt256 (b : UInt8) : b.toNat < 256 := b.toNat_lt
theorem beq_nat (b : UInt8) (n : Nat) (hn : n < 256) : ((b.toNat : Int) == (n : Int)) = (b == UInt8.ofNat n) := by
  rw [Bool.eq_iff_iff, beq_iff_eq, beq_iff_eq]
  constructor
  · intro h
    have h1 : b.toNat = n := by omega
    rw [← h1]; simp
  · intro h
    rw [h]; simp [UInt8.toNat_ofNat']; omega
set_option maxHeartbeats 1000000 in
theorem isLetter_any : Byt 36 lowB := by
  intro b w
  have HF := Lib.hid (show lowB b = (decide (97 ≤ b.toNat) && decide (b.toNat ≤ 122)) from rfl)
  by_cases h1 : 97 ≤ b.toNat
  · by_cases h2 : b.toNat ≤ 122
    · have a1 : (97 : Int) ≤ (b.toNat : Int) := by omega
      have a2 : (b.toNat : Int) ≤ (122 : Int) := by omega
      have HR : Hid (lowB b = true) := Lib.hid (by rw [HF.out, decide_eq_true h1, decide_eq_true h2]; rfl)
      go_enter Tryd.func36, Tryd.ntmps36
      go_wp2_with fail
      go_ret
      exact ⟨ret_bool HR.out.symm, rfl⟩
    · have a1 : (97 : Int) ≤ (b.toNat : Int) := by omega
      have a2 : decide ((b.toNat : Int) ≤ (122 : Int)) = false := decide_eq_false (by omega)
      have a3 : decide (b.toNat ≤ 122) = false := decide_eq_false h2
      have HR : Hid (lowB b = false) := Lib.hid (by rw [HF.out, a3, Bool.and_false])
      clear h2
      go_enter Tryd.func36, Tryd.ntmps36
      go_wp2_with fail
      go_ret
      exact ⟨ret_bool HR.out.symm, rfl⟩
  · have a1 : decide ((97 : Int) ≤ (b.toNat : Int)) = false := decide_eq_false (by omega)
    have a3 : decide (97 ≤ b.toNat) = false := decide_eq_false h1
    have HR : Hid (lowB b = false) := Lib.hid (by rw [HF.out, a3, Bool.false_and])
    clear h1
    go_enter Tryd.func36, Tryd.ntmps36
    go_wp2_with fail
    go_ret
    exact ⟨ret_bool HR.out.symm, rfl⟩
end Go.Proofs.YtkdimbpmgngajaaDoor.Lx
