/- Walks: lists of numbers are appended; what stands for a boolean. -/
import Derived.Test.YtlcjpnagjiemiaaRows
import Derived.Test.YtlcjpnagjiemiaaCdY2
namespace Go.Proofs.Ytlcjpnagjiemiaa
open Go.RowKit

/-- A slice of numbers that can be read. -/
structure Ints (w : World) (A : Option Addr) (n c : Nat) (zs : List Int) : Prop where
  has : Has w A n c (zs.map (Value.int .i64))
  ran : ∀ z ∈ zs, -9223372036854775808 ≤ z ∧ z ≤ 9223372036854775807
theorem Ints.len {w : World} {A : Option Addr} {n c : Nat} {l : List Int} (h : Ints w A n c l) : l.length = n := by
  have := h.has.1; simpa using this
theorem Ints.below {w w' : World} {A : Option Addr} {n c : Nat} {l : List Int} (h : Ints w A n c l) (hb : Below w.heap.size w w') : Ints w' A n c l := ⟨h.has.below hb, h.ran⟩
theorem Ints.at {w : World} {A : Option Addr} {n c : Nat} {l : List Int} (h : Ints w A n c l) {k : Nat} (hk : k < n) : ∃ b off x, A = some ⟨b, off, none⟩ ∧ l[k]? = some x ∧ w.cell? ⟨b, off + k, none⟩ = some (.int .i64 x) ∧ b < w.heap.size := by
  have hl := h.len
  obtain ⟨h1, h2, h3⟩ := h.has
  rcases h3 with ⟨_, h4, _⟩ | ⟨a, rfl, h3⟩
  · omega
  · obtain ⟨b, off, rfl, hb, hc⟩ := row_cells (w := w) (x := a) (n := n) (f := fun i => .int .i64 (l.getD i 0)) (fun i hi => by
      have := h3 i (.int .i64 (l.getD i 0)) (by simp [List.getD, List.getElem?_eq_getElem (show i < l.length by omega)])
      exact this.2) (by omega)
    refine ⟨b, off, l[k], rfl, by simp, ?_, hb⟩
    rw [hc k hk]
    simp [List.getD, List.getElem?_eq_getElem (show k < l.length by omega)]
/-- The bytes of numbers. -/
def listE : List Int → List Int
  | [] => []
  | z :: t => numE z ++ listE t
theorem listE_len : ∀ {l : List Int}, (∀ z ∈ l, -9223372036854775808 ≤ z ∧ z ≤ 9223372036854775807) → (listE l).length ≤ 10 * l.length
  | [], _ => by simp [listE]
  | z :: t, h => by
    have h1 := h z (List.mem_cons_self ..)
    have := numE_len h1.1 h1.2
    have := listE_len (l := t) (fun y hy => h y (List.mem_cons_of_mem _ hy))
    simp only [listE, List.length_append, List.length_cons]; omega

set_option maxHeartbeats 2000000 in
theorem putNums_any {A B : Option Addr} {n c m d : Nat} {l zs : List Int} {w : World} (hA : Byt w A n c l) (hB : Ints w B m d zs) (hn : n ≤ 100000000) (hm : m ≤ 10000000) :
    Calls Try.prog 28 #[.slice A n c, .slice B m d] w (Gives w w.heap.size (l ++ (numE zs.length ++ listE zs))) := by
  have hl := hA.len
  have hzl := hB.len
  have hle := listE_len hB.ran
  have h10 := numE_len (z := m) (by omega) (by omega)
  have HF := Lib.hid (full_any A n c w hA.nil0 hA.cap hA.max)
  have HN := Lib.hid (appNum_byt (m : Int) hA.full (by omega) (by omega))
  have HB := Lib.hid hB
  have HM := Lib.hid hm; have HNN := Lib.hid hn; have hmi : (m : Int) ≤ 10000000 := by omega
  rw [hzl] at hle ⊢
  have HLE := Lib.hid hle
  clear hA hB hn hm hle
  go_enter Try.func28, Try.ntmps28
  go_wp2_with (first
    | (go_at_call 30; refine HF.out.mono ?_; rintro e w1 ⟨rfl, rfl⟩)
    | (go_at_call 29; refine HN.out.mono ?_; rintro e w1 ⟨v1, rfl, ho1, hb1⟩))
  go_loopw [5, 15] (fun v i wr => ∃ (k : Nat) (L : List Int), i = .int .i64 (k : Int) ∧ k ≤ m ∧ Own wr w.heap.size v L ∧ Hid (L ++ listE (zs.drop k) = l ++ (numE m ++ listE zs)) ∧ Below w.heap.size w wr) (fun _ i _ => m - (intOf i).toNat)
  case atStart => exact ⟨0, _, rfl, by omega, ho1, by show _ = _; rw [List.append_assoc, List.drop_zero], hb1⟩
  case round =>
    obtain ⟨k, L, rfl, hk, ho, hd, hb⟩ := hrel
    by_cases hlt : k < m
    · obtain ⟨b, off, x, rfl, hx, hcell, hbl⟩ := HB.out.at hlt
      have hr := HB.out.ran x (List.mem_of_getElem? hx)
      have hlt' : (k : Int) < (m : Int) := by omega
      have hcell' := (hb.cell (p := ⟨b, off + k, none⟩) hbl).trans hcell
      have hlen := congrArg List.length hd.out
      simp only [List.length_append] at hlen
      have hL : L.length ≤ 1000000000 := by have h1 := HM.out; have h2 := HNN.out; have h3 := HLE.out; omega
      have HA1 := Lib.hid (appNum_own x ho hb.size hL hr)
      clear hL hlen hr
      go_wp2_with (go_at_call 29; refine HA1.out.mono ?_; rintro e w2 ⟨v2, rfl, ho2, hb2⟩)
      go_roundw
      case rel =>
        refine ⟨k + 1, _, by go_num, by omega, ho2, ?_, hb.trans hb2⟩
        have := hd.out
        rw [drop_at hx] at this
        show _ = _
        rw [← this]; simp [listE]
      case measure => simp [intOf]; omega
    · obtain rfl : k = m := by omega
      have hfin : L = l ++ (numE k ++ listE zs) := by
        have := hd.out
        rw [List.drop_eq_nil_of_le (by omega)] at this
        simpa [listE] using this
      have HFI := Lib.hid hfin; clear hfin
      go_wp2
      go_ret
      exact ⟨_, rfl, HFI.out ▸ ho, hb⟩

def bnum (b : Bool) : Int := if b then 1 else 0
theorem truthNum_any (b : Bool) (w : World) : Calls Try.prog 46 #[.bool b] w fun e w' => e = .returned (.int .i64 (bnum b)) ∧ w' = w := by
  go_enter Try.func46, Try.ntmps46
  cases b with
  | true => go_wp2; go_ret; exact ⟨rfl, rfl⟩
  | false => go_wp2; go_ret; exact ⟨rfl, rfl⟩
theorem refTruth_any (b : Bool) (w : World) : Calls Try.prog 47 #[.bool b] w fun e w' => e = .returned (.int .i64 (bnum b)) ∧ w' = w := by
  go_enter Try.func47, Try.ntmps47
  cases b with
  | true => go_wp2; go_ret; exact ⟨rfl, rfl⟩
  | false => go_wp2; go_ret; exact ⟨rfl, rfl⟩
theorem bnum_ran (b : Bool) : -9223372036854775808 ≤ bnum b ∧ bnum b ≤ 9223372036854775807 := by cases b <;> decide
end Go.Proofs.Ytlcjpnagjiemiaa
