/- How lists of payloads that come in read; whether they are few. -/
import Derived.Test.YtfamghmoanfdgaaLawKit
import Derived.Test.YtfamghmoanfdgaaFrL1
import Derived.Deep.Slices
import Derived.Deep.Fields
import Derived.ChangeSame
import Derived.Lib.SmallJoins
namespace Go.Proofs.Ytfamghmoanfdgaa
open Go.ChangeShapes Go.WideShapes Go.ChangeAt Go.RowKit Go.Deep

set_option maxRecDepth 100000 in
theorem pls_of {H : Type} {enc : TypeId × Value → H} {w : World} {d : DataW H} {p : List MemPlace} {A : Option Addr} {len cap : Nat}
    (h : DataW.Trod enc Try.prog w 0 (fun _ => true) true 27 (.slice A len cap) d p) : ∃ vs ps, Pls w A len cap vs ps := by
  obtain ⟨fuel, hf⟩ := h
  rcases open_slice Try.underlying27 hf with ⟨hcs, _⟩ | ⟨a, l, c, m, n, D, Pl, hcs, _, hl, hm, hmm, _, hi⟩
  · simp [Value.cells] at hcs
    obtain ⟨rfl, rfl, rfl⟩ := hcs
    exact ⟨[], [], ⟨⟨rfl, by simp, .inl ⟨rfl, rfl, rfl⟩⟩, rfl, fun i hi => by omega⟩⟩
  · simp [Value.cells] at hcs
    obtain ⟨rfl, rfl, rfl⟩ := hcs
    simp at hmm
    subst hmm
    have hC : Try.prog.cellsOf 22 = 1 := by kernel_rfl
    have hat : ∀ i, i < m → ∃ B k e p, w.cell? (a.add i) = some (.slice B k e) ∧ Byt w B k e p := by
      intro i him
      obtain ⟨cs', hc, ht'⟩ := hi i him
      rw [hC] at hc
      obtain ⟨_, hcl, hcat⟩ := World.cells?_some hc
      obtain ⟨c0, rfl⟩ : ∃ c0, cs' = [c0] := by
        match cs', hcl with
        | [c0], _ => exact ⟨c0, rfl⟩
      have g0 := hcat 0 (by decide)
      rw [Go.Deep.add_add] at g0
      have h2 := ht'
      rcases open_slice Try.underlying22 ht' with ⟨hcs, _⟩ | ⟨a', l', c', m', n', D', Pl', hcs, _⟩
      · obtain rfl : c0 = .slice none 0 0 := by simpa using hcs
        exact ⟨none, 0, 0, [], by simpa using g0, byt_nil w⟩
      · obtain rfl : c0 = .slice (some a') l' c' := by simpa using hcs
        obtain ⟨zs, hz⟩ := isRow_of Try.underlying22 Try.underlying5 (by kernel_rfl) (⟨_, h2⟩ : DataW.Trod enc Try.prog w 0 (fun _ => true) true 22 (.slice (some a') l' c') _ _)
        exact ⟨_, _, _, _, by simpa using g0, byt_of_row hz⟩
    obtain ⟨f, hf'⟩ : ∃ f : Nat → (Option Addr × Nat × Nat × List Int), ∀ i, i < m → w.cell? (a.add i) = some (.slice (f i).1 (f i).2.1 (f i).2.2.1) ∧ Byt w (f i).1 (f i).2.1 (f i).2.2.1 (f i).2.2.2 := by
      have hex : ∀ i, ∃ t : Option Addr × Nat × Nat × List Int, i < m → w.cell? (a.add i) = some (.slice t.1 t.2.1 t.2.2.1) ∧ Byt w t.1 t.2.1 t.2.2.1 t.2.2.2 := by
        intro i
        by_cases h : i < m
        · obtain ⟨B, k, e, q, h1, h2⟩ := hat i h
          exact ⟨(B, k, e, q), fun _ => ⟨h1, h2⟩⟩
        · exact ⟨(none, 0, 0, []), fun h' => absurd h' h⟩
      exact ⟨fun i => Classical.choose (hex i), fun i => Classical.choose_spec (hex i)⟩
    refine ⟨(List.range len).map (fun i => .slice (f i).1 (f i).2.1 (f i).2.2.1), (List.range len).map (fun i => (f i).2.2.2), ⟨⟨by simp, ?_, .inr ⟨_, rfl, ?_⟩⟩, by simp, ?_⟩⟩
    · intro u hu
      obtain ⟨i, _, rfl⟩ := List.mem_map.1 hu
      rfl
    · intro j u hu
      rw [List.getElem?_map] at hu
      have hj : j < len := by
        rcases Nat.lt_or_ge j len with h | h
        · exact h
        · rw [List.getElem?_eq_none (by simpa using h)] at hu; cases hu
      rw [List.getElem?_range hj] at hu
      simp only [Option.map_some, Option.some.injEq] at hu
      subst hu
      have h1 := (hf' j (by omega)).1
      have hx : (a.add j).block = a.block := by unfold Addr.add; split <;> rfl
      exact ⟨by rw [← hx]; exact cell_block_lt h1, h1⟩
    · intro i hi'
      refine ⟨(f i).1, (f i).2.1, (f i).2.2.1, (f i).2.2.2, ?_, ?_, (hf' i (by omega)).2⟩
      · rw [List.getElem?_map, List.getElem?_range hi']; rfl
      · rw [List.getElem?_map, List.getElem?_range hi']; rfl

/-- At most 12 payloads of at most 60 bytes. -/
def short (p : List Int) : Bool := decide (p.length ≤ 60)
def fewB (n : Nat) (ps : List (List Int)) : Bool := decide (n ≤ 12) && ps.all short
set_option maxHeartbeats 2000000 in
theorem few_any {A : Option Addr} {n c : Nat} {vs : List Value} {ps : List (List Int)} {w : World} (hA : Pls w A n c vs ps) :
    Calls Try.prog 14 #[.slice A n c] w fun e w' => e = .returned (.bool (fewB n ps)) ∧ w = w' := by
  have hpl := hA.len
  by_cases hn : (12 : Int) < (n : Int)
  · have hr : fewB n ps = false := by simp [fewB]; omega
    rw [hr]
    clear hA hpl hr
    go_enter Try.func14, Try.ntmps14
    go_wp2
    go_ret
    exact ⟨rfl, rfl⟩
  · have hr : fewB n ps = ps.all short := by simp [fewB]; omega
    rw [hr]
    obtain ⟨fin, hfin⟩ : ∃ fin, ps.all short = fin := ⟨_, rfl⟩
    rw [hfin]
    have HF := Lib.hid hfin
    have HA := Lib.hid hA; have HPL := Lib.hid hpl
    clear hA hpl hr hfin
    go_enter Try.func14, Try.ntmps14
    go_wp2
    go_loopw [3] (fun i wr => ∃ (k : Nat), i = .int .i64 (k : Int) ∧ k ≤ n ∧ Hid ((ps.drop k).all short = fin) ∧ wr = w) (fun i _ => n - (intOf i).toNat)
    case atStart => exact ⟨0, rfl, by omega, HF.out, rfl⟩
    case round =>
      obtain ⟨k, rfl, hk, hf, rfl⟩ := hrel
      by_cases hlt : k < n
      · obtain ⟨b, off, B, m, d, p, rfl, hcell, hbl, hp, hB⟩ := HA.out.at hlt
        have hlt' : (k : Int) < (n : Int) := by omega
        have hml := hB.len
        have hf' := hf.out
        rw [drop_at' hp, List.all_cons] at hf'
        by_cases hbig : (60 : Int) < (m : Int)
        · have hno : short p = false := by simp [short]; omega
          rw [hno, Bool.false_and] at hf'
          have HFF := Lib.hid hf'
          clear hf' hf hB
          go_wp2
          go_ret
          have hff := HFF.out
          subst hff
          exact ⟨rfl, rfl⟩
        · have hyes : short p = true := by simp [short]; omega
          rw [hyes, Bool.true_and] at hf'
          have HFF := Lib.hid hf'
          clear hf' hf hB
          go_wp2
          go_roundw
          case rel => exact ⟨k + 1, by first | rfl | (simp; omega), by omega, HFF.out, by first | trivial | rfl⟩
          case measure => simp [intOf]; omega
      · obtain rfl : k = n := by omega
        have hf' := hf.out
        rw [List.drop_eq_nil_of_le (by have := HPL.out; omega)] at hf'
        have HFF := Lib.hid hf'
        clear hf hf'
        go_wp2
        go_ret
        have hff := HFF.out
        subst hff
        exact ⟨rfl, rfl⟩
theorem few_bound {n : Nat} {ps : List (List Int)} (hl : ps.length = n) (h : fewB n ps = true) : n ≤ 12 ∧ ∀ p ∈ ps, p.length ≤ 60 := by
  simp only [fewB, Bool.and_eq_true, decide_eq_true_eq, List.all_eq_true] at h
  exact ⟨h.1, fun p hp => by have := h.2 p hp; simpa [short] using this⟩
theorem few_fits {ps : List (List Int)} (h : ∀ p ∈ ps, p.length ≤ 60) : ps.all fits = true := by
  rw [List.all_eq_true]
  intro p hp
  have := h p hp
  simp [fits]; omega
theorem few_len : ∀ {ps : List (List Int)}, (∀ p ∈ ps, p.length ≤ 60) → (joinE ps).length ≤ 74 * ps.length
  | [], _ => by simp [joinE]
  | p :: ps, h => by
    have h1 := h p (List.mem_cons_self ..)
    have h2 := few_len (ps := ps) (fun q hq => h q (List.mem_cons_of_mem _ hq))
    have h3 := numE_len (z := p.length) (by omega) (by omega)
    simp only [joinE, frm, List.length_append, be4_len, List.length_cons]; omega
end Go.Proofs.Ytfamghmoanfdgaa
