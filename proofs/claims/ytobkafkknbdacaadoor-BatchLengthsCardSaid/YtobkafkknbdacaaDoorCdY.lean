/- Walks: comparing bytes; the reference's numbers. -/
import Derived.Test.YtobkafkknbdacaaDoorRows
import Derived.Test.YtobkafkknbdacaaDoorCdX
import Derived.Lib.ConvBytes
import Derived.Laws.BytesArg
import Derived.Laws.Strings
namespace Go.Proofs.YtobkafkknbdacaaDoor
open Go.RowKit

theorem numE_len {z : Int} (h1 : -9223372036854775808 ≤ z) (h2 : z ≤ 9223372036854775807) : (numE z).length ≤ 10 :=
  grp_len 9 _ (by have : (128:Nat)^(9+1) = 1180591620717411303424 := by decide
                  have := zig_lt h1 h2; omega)
theorem conv_zero {P : Program} (w : World) (src e : TypeId) (hs : P.underlying src = some (.slice e)) (he : P.underlying e = some (.int .u8)) (p : Option Addr) (c : Nat) :
    ∀ dst, P.underlying dst = some .string → (convert src dst (.slice p 0 c)).run P w = .ok (.string ByteArray.empty) w := by
  intro dst hd
  rw [run_convert_bytes_string w src dst e _ 0 c hs he hd]
  cases p <;> simp [Conv.bytesToString, loadCells]
  all_goals rfl
theorem byt_conv {w : World} {A : Option Addr} {n c : Nat} {l : List Int} (h : Byt w A n c l) :
    (convert 37 9 (.slice A n c)).run Tryd.prog w = .ok (.string (strOfNums l)) w := by
  have hl := h.len
  rcases Nat.eq_zero_or_pos n with rfl | hn
  · have : l = [] := List.length_eq_zero_iff.1 hl
    subst this
    exact conv_zero w _ _ Tryd.underlying37 Tryd.underlying5 A c _ Tryd.underlying9
  · obtain ⟨h1, h2, h3⟩ := h.has
    rcases h3 with ⟨_, h4, _⟩ | ⟨x, rfl, h3⟩
    · omega
    · obtain ⟨b, off, rfl, hb, hc⟩ := row_cells (w := w) (x := x) (n := n) (f := fun i => .int .u8 (l.getD i 0)) (fun i hi => by
        have := h3 i (.int .u8 (l.getD i 0)) (by rw [C8_at (by omega)]; simp [List.getD, List.getElem?_eq_getElem (show i < l.length by omega)])
        exact this.2) hn
      exact run_convert_bytes_arg w _ _ Tryd.underlying37 Tryd.underlying5 b off n c l hl hc _ Tryd.underlying9
theorem strOf_inj : ∀ {a b : List Int}, (∀ x ∈ a, 0 ≤ x ∧ x ≤ 255) → (∀ x ∈ b, 0 ≤ x ∧ x ≤ 255) → a.map (fun n => UInt8.ofNat n.toNat) = b.map (fun n => UInt8.ofNat n.toNat) → a = b
  | [], [], _, _, _ => rfl
  | [], _ :: _, _, _, h => by simp at h
  | _ :: _, [], _, _, h => by simp at h
  | x :: a, y :: b, ha, hb, h => by
    rw [List.map_cons, List.map_cons, List.cons.injEq] at h
    have hx := ha x (List.mem_cons_self ..)
    have hy := hb y (List.mem_cons_self ..)
    have e : x = y := by
      have := congrArg UInt8.toNat h.1
      simp at this
      omega
    rw [e, strOf_inj (fun z hz => ha z (List.mem_cons_of_mem _ hz)) (fun z hz => hb z (List.mem_cons_of_mem _ hz)) h.2]
theorem strOf_eq {a b : List Int} (ha : ∀ x ∈ a, 0 ≤ x ∧ x ≤ 255) (hb : ∀ x ∈ b, 0 ≤ x ∧ x ≤ 255) : (strOfNums a = strOfNums b) ↔ a = b := by
  refine ⟨fun h => strOf_inj ha hb ?_, fun h => by rw [h]⟩
  rw [← strOfNums_data, ← strOfNums_data, h]

theorem ret_bool' {a b : Bool} (h : a = b) : Ending.returned (.bool a) = Ending.returned (.bool b) := by rw [h]

/-- The bytes of a text. -/
def strB (s : ByteArray) : List Int := s.data.toList.map fun b => (b.toNat : Int)
theorem strB_len (s : ByteArray) : (strB s).length = s.size := by simp [strB]
theorem strB_ran (s : ByteArray) : ∀ x ∈ strB s, 0 ≤ x ∧ x ≤ 255 := by
  intro x hx
  simp only [strB, List.mem_map] at hx
  obtain ⟨b, _, rfl⟩ := hx
  have := b.toNat_lt
  omega
theorem strB_cells (s : ByteArray) : Lib.strCells s = C8 (strB s) := by simp [Lib.strCells, C8, strB]
theorem strB_back (s : ByteArray) : strOfNums (strB s) = s := by
  obtain ⟨d⟩ := s
  have e : ((fun n : Int => UInt8.ofNat n.toNat) ∘ fun b : UInt8 => (b.toNat : Int)) = id := by funext b; simp
  simp [strOfNums, strB, e]
theorem strB_of {l : List Int} (h : ∀ x ∈ l, 0 ≤ x ∧ x ≤ 255) : strB (strOfNums l) = l := by
  unfold strB
  rw [strOfNums_data, List.map_map]
  conv => rhs; rw [← List.map_id l]
  apply List.map_congr_left
  intro x hx
  have := h x hx
  simp; omega

end Go.Proofs.YtobkafkknbdacaaDoor
