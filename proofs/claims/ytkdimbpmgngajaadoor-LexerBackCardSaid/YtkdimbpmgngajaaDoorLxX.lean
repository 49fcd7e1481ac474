/- Walk: Scan. -/
import Derived.Test.YtkdimbpmgngajaaDoorLxW
namespace Go.Proofs.YtkdimbpmgngajaaDoor.Lx
open Go Go.Lib Go.RowKit Go.Proofs.YtkdimbpmgngajaaDoor Go.Maps

theorem own_keepB {w w' : World} {base e size n : Nat} {v : Value} {xs : List Value} (h : w.ownsRow base e size v n xs) (hb : Below w.heap.size w w') : w'.ownsRow base e size v n xs := by
  refine ⟨h.1, ?_⟩
  rcases h.2 with h | ⟨g', cap, cur, h1, h2, h3, h4, h5, h6, h7⟩
  · exact .inl h
  · exact .inr ⟨g', cap, cur, h1, h2, (hb.block g' (Array.getElem?_eq_some_iff.1 h3).1).trans h3, h4, h5, h6, h7⟩
/-- What Scan returns. -/
def ScnO (R : Except (Nat × Nat) (List Tk)) (w : World) (s : ByteArray) (e : Ending) (w' : World) : Prop := match R with
  | .error (m, n) => e = .returned (.tuple #[.slice none 0 0, .int .i64 ((s.size - m : Nat) : Int), .int .i64 n]) ∧ Below w.heap.size w w'
  | .ok D => ∃ v, e = .returned (.tuple #[v, .int .i64 0, .int .i64 0]) ∧ w'.ownsRow w.heap.size 30 4 v D.length (tkl s.size D) ∧ Below w.heap.size w w'
set_option maxRecDepth 100000 in
set_option maxHeartbeats 4000000 in
theorem Scan_any (s : ByteArray) (w : World) (hs : s.size ≤ maxLen) : Calls Tryd.prog 10 #[.string s] w (ScnO (scnP s.data.toList) w s) := by
  have hmf : ∀ (fn : Fn) (first cap : Array Value) (w : World), (Instr.makeFunc fn first cap).run Tryd.prog w = .ok (.func fn first cap) w := fun _ _ _ _ => rfl
  obtain ⟨W, hW⟩ : ∃ W, (w.alloc (.cells #[.int .i64 0] 3)).alloc (.cells #[.int .i64 0] 24) = W := ⟨_, rfl⟩
  have hB : Below w.heap.size w W := hW ▸ (below_one w _).alloc (by simp) _
  have hR : Rs W w.heap.size (w.heap.size + 1) 0 0 := by
    have h1 : W.heap[w.heap.size]? = some (.cells #[.int .i64 0] 3 (0, 0)) := by rw [← hW, heap_alloc_old _ _ (by simp)]; exact heap_alloc_new w _
    have h2 : W.heap[w.heap.size + 1]? = some (.cells #[.int .i64 0] 24 (0, 0)) := by
      have h := heap_alloc_new (w.alloc (.cells #[.int .i64 0] 3)) (.cells #[.int .i64 0] 24)
      rw [World.size_alloc, hW] at h; exact h
    refine ⟨?_, ?_, ?_, ?_⟩ <;> simp [World.cell?, World.frozen?, h1, h2]
  have hS : W.heap.size = w.heap.size + 1 + 1 := by rw [← hW]; simp
  have HS := Lib.hid (scan_any s W hs)
  obtain ⟨R, hRR⟩ : ∃ R, scnP s.data.toList = R := ⟨_, rfl⟩
  rw [hRR] at HS ⊢
  have HB := Lib.hid hB; have HR := Lib.hid hR; have HSZ := Lib.hid hS
  obtain ⟨ca, cb, fa, fb⟩ := hR
  clear hRR hs hB hS
  cases R with
  | error y =>
    obtain ⟨m, n⟩ := y
    unfold ScO at HS
    simp only at HS
    go_enter_defers Tryd.func10, Tryd.ntmps10
    go_wp2_with (go_at_call 22; (with_reducible refine HS.out.mono ?_); rintro e w1 ⟨rfl, hb1⟩; have HB1 := Lib.hid hb1; clear hb1)
    have hW1 : Rs w1 w.heap.size (w.heap.size + 1) 0 0 := by
      have h1 := HB1.out
      have hz := HSZ.out
      exact ⟨(h1.cell (p := ⟨w.heap.size, 0, none⟩) (by simp; omega)).trans ca, (h1.cell (p := ⟨w.heap.size + 1, 0, none⟩) (by simp; omega)).trans cb, (h1.frozen (p := ⟨w.heap.size, 0, none⟩) (by simp; omega)).trans fa, (h1.frozen (p := ⟨w.heap.size + 1, 0, none⟩) (by simp; omega)).trans fb⟩
    refine leaves_cons (f := 21) (args := #[.pointer (some ⟨w.heap.size, 0, none⟩), .pointer (some ⟨w.heap.size + 1, 0, none⟩)]) (by simp) (by simp [go_sem]) ?_
    refine (catch_panicking w.heap.size (w.heap.size + 1) (s.size - m) n 0 0 _ hW1 (by omega)).mono ?_
    rintro e u' w'' ⟨rfl, rfl, h1, h2⟩
    have e1 := h1.ca
    have e2 := h1.cb
    have hb := HB.out.trans ((HB1.out.mono HB.out.size).trans (h2 w.heap.size (Nat.le_trans HB.out.size HB1.out.size) (Nat.le_refl _) (by omega)))
    simp [Leaves, settle, results, Tryd.results10, go_sem, e1, e2]
    exact ⟨rfl, hb⟩
  | ok D =>
    unfold ScO at HS
    simp only at HS
    go_enter_defers Tryd.func10, Tryd.ntmps10
    go_wp2_with (go_at_call 22; (with_reducible refine HS.out.mono ?_); rintro e w1 ⟨v, rfl, ho1, hb1⟩; have HB1 := Lib.hid hb1; have HO1 := Lib.hid ho1; have ca1 := (hb1.cell (p := ⟨w.heap.size, 0, none⟩) (by have := HSZ.out; simp; omega)).trans ca; have cb1 := (hb1.cell (p := ⟨w.heap.size + 1, 0, none⟩) (by have := HSZ.out; simp; omega)).trans cb; have fa1 := (hb1.frozen (p := ⟨w.heap.size, 0, none⟩) (by have := HSZ.out; simp; omega)).trans fa; have fb1 := (hb1.frozen (p := ⟨w.heap.size + 1, 0, none⟩) (by have := HSZ.out; simp; omega)).trans fb; clear hb1 ho1)
    have hne : w.heap.size ≠ w.heap.size + 1 := by omega
    have hne2 : w.heap.size + 1 ≠ w.heap.size := by omega
    have hW1 : Rs ((w1.setCell ⟨w.heap.size, 0, none⟩ (.int .i64 0)).setCell ⟨w.heap.size + 1, 0, none⟩ (.int .i64 0)) w.heap.size (w.heap.size + 1) 0 0 := by
      refine ⟨?_, ?_, ?_, ?_⟩ <;> simp [go_sem, ca1, cb1, fa1, fb1]
    have hb0 : Below w.heap.size w ((w1.setCell ⟨w.heap.size, 0, none⟩ (.int .i64 0)).setCell ⟨w.heap.size + 1, 0, none⟩ (.int .i64 0)) :=
      ((HB.out.trans (HB1.out.mono HB.out.size)).setCell (p := ⟨w.heap.size, 0, none⟩) (Nat.le_refl _) _).setCell (p := ⟨w.heap.size + 1, 0, none⟩) (Nat.le_succ _) _
    have ho2 := own_far (own_far HO1.out (gr_set w1 w.heap.size 0 (.int .i64 0)) (by have := HSZ.out; omega)) (gr_set (w1.setCell ⟨w.heap.size, 0, none⟩ (.int .i64 0)) (w.heap.size + 1) 0 (.int .i64 0)) (by have := HSZ.out; omega)
    refine leaves_cons (f := 21) (args := #[.pointer (some ⟨w.heap.size, 0, none⟩), .pointer (some ⟨w.heap.size + 1, 0, none⟩)]) (by simp) (by simp [go_sem]) ?_
    refine (catch_idle w.heap.size (w.heap.size + 1) 0 0 _ hW1).mono ?_
    rintro e u' w'' ⟨rfl, rfl, h1, h2⟩
    have e1 := h1.ca
    have e2 := h1.cb
    have hb := hb0.trans (h2.mono hb0.size)
    have ho3 := own_mono (own_keepB ho2 h2) (show w.heap.size ≤ W.heap.size by have := HSZ.out; omega)
    simp [Leaves, settle, results, Tryd.results10, go_sem, e1, e2]
    exact ⟨v, rfl, ho3, hb⟩
end Go.Proofs.YtkdimbpmgngajaaDoor.Lx
