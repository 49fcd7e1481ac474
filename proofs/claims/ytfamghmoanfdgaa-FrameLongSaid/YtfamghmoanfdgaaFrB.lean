/- Walks: one frame; lists of payloads are compared; the chapter's examples. -/
import Derived.Test.YtfamghmoanfdgaaRows
import Derived.Test.YtfamghmoanfdgaaFrA
namespace Go.Proofs.Ytfamghmoanfdgaa
open Go.RowKit

theorem byt_lit (w : World) (l : List Int) (hr : ∀ x ∈ l, 0 ≤ x ∧ x ≤ 255) (hn : l.length ≤ maxLen) : Byt (w.alloc (.cells (C8 l).toArray 5)) (some ⟨w.heap.size, 0, none⟩) l.length l.length l := by
  refine ⟨⟨C8_len l, C8_one l, .inr ⟨_, rfl, fun j u hu => ⟨by simp, ?_⟩⟩⟩, Nat.le_refl _, hn, hr⟩
  have h := heap_alloc_new w (.cells (C8 l).toArray 5)
  rw [add_none, Nat.zero_add]
  simp only [World.cell?, h]
  simpa using hu
theorem below_lit (w : World) (o : Obj) : Below w.heap.size w (w.alloc o) := (Below.refl _ _).alloc (Nat.le_refl _) o
theorem lit_world (w : World) (l : List Int) (hr : ∀ x ∈ l, 0 ≤ x ∧ x ≤ 255) (hn : l.length ≤ maxLen) : ∃ L, w.alloc (.cells (C8 l).toArray 5) = L ∧ Below w.heap.size w L ∧ Byt L (some ⟨w.heap.size, 0, none⟩) l.length l.length l := ⟨_, rfl, below_lit w _, byt_lit w l hr hn⟩
theorem same_yes {A B : Option Addr} {n c m d : Nat} {a b : List Int} {w : World} (hA : Byt w A n c a) (hB : Byt w B m d b) (h : a = b) :
    Calls Try.prog 17 #[.slice A n c, .slice B m d] w fun e w' => e = .returned (.bool true) ∧ w = w' :=
  (same_any hA hB).mono fun e w' ⟨h1, h2⟩ => ⟨by rw [h1]; simp [h], h2⟩
/-- One payload in a list of its own. -/
theorem pls_one (w : World) {A : Option Addr} {n c : Nat} {l : List Int} (h : Byt w A n c l) : Pls (w.alloc (.cells #[.slice A n c] 22)) (some ⟨w.heap.size, 0, none⟩) 1 1 [.slice A n c] [l] := by
  refine ⟨⟨rfl, by simp [Value.oneCell'], .inr ⟨_, rfl, fun j u hu => ⟨by simp, cell_one_new w _ _ j u hu⟩⟩⟩, rfl, fun i hi => ?_⟩
  obtain rfl : i = 0 := by omega
  exact ⟨A, n, c, l, rfl, rfl, h.below (below_lit _ _)⟩
set_option maxHeartbeats 2000000 in
theorem wrap_ok {A : Option Addr} {n c : Nat} {l : List Int} {w : World} (hA : Byt w A n c l) (hf : fits l = true) :
    Calls Try.prog 15 #[.slice A n c] w fun e w' => ∃ v, e = .returned (.tuple #[v, .int .i64 0]) ∧ Own w' w.heap.size v (frm l) ∧ Below w.heap.size w w' := by
  have hl := hA.len
  have hn : n ≤ 1048576 := by have := of_decide_eq_true hf; omega
  obtain ⟨L, hL⟩ : ∃ L, w.alloc (.cells #[.slice A n c] 22) = L := ⟨_, rfl⟩
  have bL : Below w.heap.size w L := hL ▸ below_lit _ _
  have hlen : (joinE [l]).length ≤ 100000000 := by
    have h1 := numE_len (z := l.length) (by omega) (by omega)
    simp only [joinE, frm, List.length_append, be4_len, List.length_nil]; omega
  have hJ := join_all (hL ▸ pls_one w hA) (by decide) hlen
  have HJ := Lib.hid hJ; have BL := Lib.hid bL; have HF := Lib.hid hf
  clear hA hl hn hlen hJ bL hf
  go_enter Try.func15, Try.ntmps15
  go_wp2_with (go_at_call 18; refine HJ.out.mono ?_; rintro e w1 ⟨h1, hb1⟩; rw [if_pos (by simp [HF.out])] at h1; obtain ⟨v1, rfl, ho1⟩ := h1; have HO := Lib.hid ho1; clear ho1)
  go_ret2
  refine ⟨v1, rfl, ?_, BL.out.trans (hb1.mono BL.out.size)⟩
  have := HO.out.mono BL.out.size
  simpa [joinE] using this

set_option maxRecDepth 100000 in
set_option maxHeartbeats 4000000 in
theorem sameAll_yes {A B : Option Addr} {n c d : Nat} {ps : List (List Int)} {w : World} (hn : n ≤ 100000)
    (hA : ∀ k, k < n → ∃ b off B' m d' p, A = some ⟨b, off, none⟩ ∧ w.cell? ⟨b, off + k, none⟩ = some (.slice B' m d') ∧ ps[k]? = some p ∧ Byt w B' m d' p)
    (hB : ∀ k, k < n → ∃ b off B' m d' p, B = some ⟨b, off, none⟩ ∧ w.cell? ⟨b, off + k, none⟩ = some (.slice B' m d') ∧ ps[k]? = some p ∧ Byt w B' m d' p) :
    Calls Try.prog 24 #[.slice A n c, .slice B n d] w fun e w' => e = .returned (.bool true) ∧ Below w.heap.size w w' := by
  have HA := Lib.hid hA; have HB := Lib.hid hB
  have hni : (n : Int) ≤ 100000 := by omega
  clear hA hB hn
  go_enter Try.func24, Try.ntmps24
  go_wp2_with fail
  go_loopw [5] (fun iv wr => ∃ k q : Nat, iv = .int .i64 k ∧ k ≤ n ∧ wr = w.drewN q) (fun iv _ => n - (intOf iv).toNat)
  case atStart => exact ⟨0, 0, rfl, by omega, rfl⟩
  case round =>
    obtain ⟨k, q, rfl, hk, rfl⟩ := hrel
    by_cases hlt : k < n
    · obtain ⟨b1, o1, B1, m1, d1, p, rfl, e1, g1, y1⟩ := HA.out k hlt
      obtain ⟨b2, o2, B2, m2, d2, p', rfl, e2, g2, y2⟩ := HB.out k hlt
      obtain rfl : p = p' := by rw [g1] at g2; exact Option.some.inj g2
      have hlt' : (k : Int) < (n : Int) := by omega
      have cv1 := fun t => byt_conv (y1.below (below_drawn (Below.refl w.heap.size w) t))
      have cv2 := fun t => byt_conv (y2.below (below_drawn (Below.refl w.heap.size w) t))
      obtain ⟨s, hs⟩ : ∃ s, strOfNums p = s := ⟨_, rfl⟩
      rw [hs] at cv1 cv2
      clear hs y1 y2 g1 g2
      go_wp2_with fail
      go_quiet (fail)
      go_wp2_with fail
      go_roundw
      case rel => exact ⟨k + 1, _, by go_num, by omega, rfl⟩
      case measure => simp [intOf]; omega
    · obtain rfl : k = n := by omega
      go_wp2_with fail
      go_ret
      exact ⟨rfl, below_drawn (Below.refl _ _) _⟩
theorem found_at {w : World} {base : Nat} {v : Value} {ps : List (List Int)} (h : Found w base v ps) : ∃ A c, v = .slice A ps.length c ∧ ∀ k, k < ps.length → ∃ b off B' m d' p, A = some ⟨b, off, none⟩ ∧ w.cell? ⟨b, off + k, none⟩ = some (.slice B' m d') ∧ ps[k]? = some p ∧ Byt w B' m d' p := by
  obtain ⟨vs, h1, h2, h3⟩ := h
  obtain ⟨A, c, rfl, _, hg⟩ := own_form h1
  refine ⟨A, c, rfl, fun k hk => ?_⟩
  obtain ⟨g, rfl, _, _, hc⟩ := hg (by omega)
  obtain ⟨B, m, d, q1, q2, _⟩ := h3 k ps[k] (by simp [hk])
  exact ⟨g, 0, B, m, d, ps[k], rfl, by rw [Nat.zero_add, hc k hk, q1], by simp [hk], q2⟩

theorem frm_97 : frm [97] = [2, 228, 12, 41, 44, 97] := by
  have h : numE (([97] : List Int).length) = [2] := by rw [numE, show (([97] : List Int).length : Int) = 1 by rfl, grp_small (by decide)]; rfl
  rw [frm, h]; decide +kernel
theorem all_97 : allR [2, 228, 12, 41, 44, 97, 2, 228] = ([[97]], [2, 228]) := by decide +kernel
theorem fnv_nil : fnv [] = 2166136261 := rfl
end Go.Proofs.Ytfamghmoanfdgaa
