/- Walks: comparing bytes; the reference's numbers. -/
import Derived.Test.YtlcjpnagjiemiaaRows
import Derived.Test.YtlcjpnagjiemiaaCdX
import Derived.Lib.ConvBytes
import Derived.Laws.BytesArg
import Derived.Laws.Strings
namespace Go.Proofs.Ytlcjpnagjiemiaa
open Go.RowKit

theorem numE_len {z : Int} (h1 : -9223372036854775808 ≤ z) (h2 : z ≤ 9223372036854775807) : (numE z).length ≤ 10 :=
  grp_len 9 _ (by have : (128:Nat)^(9+1) = 1180591620717411303424 := by decide
                  have := zig_lt h1 h2; omega)
theorem conv_zero {P : Program} (w : World) (src e : TypeId) (hs : P.underlying src = some (.slice e)) (he : P.underlying e = some (.int .u8)) (p : Option Addr) (c : Nat) :
    ∀ dst, P.underlying dst = some .string → (convert src dst (.slice p 0 c)).run P w = .ok (.string ByteArray.empty) w := by
  intro dst hd
  rw [run_convert_bytes_string w src dst e _ 0 c hs he hd]
  cases p <;> simp [Conv.bytesToString, loadCells]
  all_goals rfl
theorem byt_conv {w : World} {A : Option Addr} {n c : Nat} {l : List Int} (h : Byt w A n c l) :
    (convert 22 9 (.slice A n c)).run Try.prog w = .ok (.string (strOfNums l)) w := by
  have hl := h.len
  rcases Nat.eq_zero_or_pos n with rfl | hn
  · have : l = [] := List.length_eq_zero_iff.1 hl
    subst this
    exact conv_zero w _ _ Try.underlying22 Try.underlying5 A c _ Try.underlying9
  · obtain ⟨h1, h2, h3⟩ := h.has
    rcases h3 with ⟨_, h4, _⟩ | ⟨x, rfl, h3⟩
    · omega
    · obtain ⟨b, off, rfl, hb, hc⟩ := row_cells (w := w) (x := x) (n := n) (f := fun i => .int .u8 (l.getD i 0)) (fun i hi => by
        have := h3 i (.int .u8 (l.getD i 0)) (by rw [C8_at (by omega)]; simp [List.getD, List.getElem?_eq_getElem (show i < l.length by omega)])
        exact this.2) hn
      exact run_convert_bytes_arg w _ _ Try.underlying22 Try.underlying5 b off n c l hl hc _ Try.underlying9
theorem strOf_inj : ∀ {a b : List Int}, (∀ x ∈ a, 0 ≤ x ∧ x ≤ 255) → (∀ x ∈ b, 0 ≤ x ∧ x ≤ 255) → a.map (fun n => UInt8.ofNat n.toNat) = b.map (fun n => UInt8.ofNat n.toNat) → a = b
  | [], [], _, _, _ => rfl
  | [], _ :: _, _, _, h => by simp at h
  | _ :: _, [], _, _, h => by simp at h
  | x :: a, y :: b, ha, hb, h => by
    rw [List.map_cons, List.map_cons, List.cons.injEq] at h
    have hx := ha x (List.mem_cons_self ..)
    have hy := hb y (List.mem_cons_self ..)
    have e : x = y := by
      have := congrArg UInt8.toNat h.1
      simp at this
      omega
    rw [e, strOf_inj (fun z hz => ha z (List.mem_cons_of_mem _ hz)) (fun z hz => hb z (List.mem_cons_of_mem _ hz)) h.2]
theorem strOf_eq {a b : List Int} (ha : ∀ x ∈ a, 0 ≤ x ∧ x ≤ 255) (hb : ∀ x ∈ b, 0 ≤ x ∧ x ≤ 255) : (strOfNums a = strOfNums b) ↔ a = b := by
  refine ⟨fun h => strOf_inj ha hb ?_, fun h => by rw [h]⟩
  rw [← strOfNums_data, ← strOfNums_data, h]

theorem ret_bool' {a b : Bool} (h : a = b) : Ending.returned (.bool a) = Ending.returned (.bool b) := by rw [h]
set_option maxHeartbeats 1000000 in
theorem same_any {A B : Option Addr} {n c m d : Nat} {a b : List Int} {w : World} (hA : Byt w A n c a) (hB : Byt w B m d b) :
    Calls Try.prog 11 #[.slice A n c, .slice B m d] w fun e w' => e = .returned (.bool (decide (a = b))) ∧ w = w' := by
  have c1 := byt_conv hA
  have c2 := byt_conv hB
  have HE := Lib.hid (strOf_eq hA.ran hB.ran)
  obtain ⟨s, hs⟩ : ∃ s, strOfNums a = s := ⟨_, rfl⟩
  obtain ⟨t, ht⟩ : ∃ t, strOfNums b = t := ⟨_, rfl⟩
  rw [hs] at c1 HE
  rw [ht] at c2 HE
  clear hA hB hs ht
  go_enter Try.func11, Try.ntmps11
  go_wp2
  go_ret
  refine ⟨ret_bool' ?_, rfl⟩
  have := HE.out
  by_cases h : a = b
  · simp [h, this.2 h]
  · have hst : s ≠ t := mt this.1 h
    have h2 : (s.toList == t.toList) = false := by
      cases hb : (s.toList == t.toList) with
      | false => rfl
      | true => exact absurd (by
          have := (beq_iff_eq).1 hb
          rw [ByteArray.toList_eq, ByteArray.toList_eq] at this
          exact ByteArray.ext (Array.toList_inj.mp this)) hst
    rw [h2]; simp [h]

/-- The bytes of a text. -/
def strB (s : ByteArray) : List Int := s.data.toList.map fun b => (b.toNat : Int)
theorem strB_len (s : ByteArray) : (strB s).length = s.size := by simp [strB]
theorem strB_ran (s : ByteArray) : ∀ x ∈ strB s, 0 ≤ x ∧ x ≤ 255 := by
  intro x hx
  simp only [strB, List.mem_map] at hx
  obtain ⟨b, _, rfl⟩ := hx
  have := b.toNat_lt
  omega
theorem strB_cells (s : ByteArray) : Lib.strCells s = C8 (strB s) := by simp [Lib.strCells, C8, strB]
theorem strB_back (s : ByteArray) : strOfNums (strB s) = s := by
  obtain ⟨d⟩ := s
  have e : ((fun n : Int => UInt8.ofNat n.toNat) ∘ fun b : UInt8 => (b.toNat : Int)) = id := by funext b; simp
  simp [strOfNums, strB, e]
theorem strB_of {l : List Int} (h : ∀ x ∈ l, 0 ≤ x ∧ x ≤ 255) : strB (strOfNums l) = l := by
  unfold strB
  rw [strOfNums_data, List.map_map]
  conv => rhs; rw [← List.map_id l]
  apply List.map_congr_left
  intro x hx
  have := h x hx
  simp; omega
set_option maxHeartbeats 1000000 in
theorem refPutNum_any {A : Option Addr} {n c : Nat} {l : List Int} {w : World} (z : Int) (hA : Byt w A n c l) (hn : n ≤ 900000000) (hz : -9223372036854775808 ≤ z ∧ z ≤ 9223372036854775807) :
    Calls Try.prog 13 #[.slice A n c, .int .i64 z] w (Gives w w.heap.size (l ++ numE z)) := by
  have h10 := numE_len hz.1 hz.2
  have HB := Lib.hid (refBytes_any z w hz)
  have HA := Lib.hid hA; have HN := Lib.hid hn
  clear hA hn hz
  go_enter Try.func13, Try.ntmps13
  go_wp2_with (first
    | (go_at_call 32; refine HB.out.mono ?_; rintro e w1 ⟨v1, rfl, ho1, hb1⟩; obtain ⟨A1, m1, c1, rfl, hm1, hB1⟩ := ho1.bytm; have HJ := Lib.hid (join_any (HA.out.below hb1) hB1 (by have := HN.out; have := hm1.out; omega)); clear ho1 hB1)
    | (go_at_call 31; refine HJ.out.mono ?_; rintro e w2 ⟨v2, rfl, ho2, hb2⟩))
  go_ret
  exact ⟨_, rfl, ho2.mono hb1.size, hb1.trans (hb2.mono hb1.size)⟩

end Go.Proofs.Ytlcjpnagjiemiaa
