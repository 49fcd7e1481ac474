/- Walk: records.Collect, with whatever closure of one captured variable that keeps a state of its own. -/
import Derived.Test.YtgobbeommjjlfaaVaB
namespace Go.Proofs.Ytgobbeommjjlfaa.Va
open Go.RowKit

/-- The records that pass, and the rejects, of the first k. -/
def pasN (D : List Rc) (E : Nat → Int) (k : Nat) : List Rc := ((List.range k).filter fun i => decide (E i = 0)).map fun i => D.getD i rc0
def rejN (E : Nat → Int) (k : Nat) : List Rj := ((List.range k).filter fun i => !decide (E i = 0)).map fun (i : Nat) => ((0 : Int), (0 : Int), (i : Int), E i)
theorem pas_yes {D : List Rc} {E : Nat → Int} {k : Nat} (h : E k = 0) : pasN D E (k + 1) = pasN D E k ++ [D.getD k rc0] := by
  unfold pasN; rw [List.range_succ, List.filter_append, List.map_append]; simp [h]
theorem pas_no {D : List Rc} {E : Nat → Int} {k : Nat} (h : E k ≠ 0) : pasN D E (k + 1) = pasN D E k := by
  unfold pasN; rw [List.range_succ, List.filter_append, List.map_append]; simp [h]
theorem rej_yes {E : Nat → Int} {k : Nat} (h : E k = 0) : rejN E (k + 1) = rejN E k := by
  unfold rejN; rw [List.range_succ, List.filter_append, List.map_append]; simp [h]
theorem rej_no {E : Nat → Int} {k : Nat} (h : E k ≠ 0) : rejN E (k + 1) = rejN E k ++ [(0, 0, (k : Int), E k)] := by
  unfold rejN; rw [List.range_succ, List.filter_append, List.map_append]; simp [h]
theorem pas_len {D : List Rc} {E : Nat → Int} {k : Nat} : (pasN D E k).length ≤ k := by
  unfold pasN; rw [List.length_map]; exact Nat.le_trans (List.length_filter_le _ _) (by simp)
theorem rej_len {E : Nat → Int} {k : Nat} : (rejN E k).length ≤ k := by
  unfold rejN; rw [List.length_map]; exact Nat.le_trans (List.length_filter_le _ _) (by simp)
/-- A closure that decodes the records D one after the other, with the errors E, and keeps a state. -/
structure Clo (p : Nat) (D : List Rc) (E : Nat → Int) (St : Nat → (Nat → Prop) → World → Prop) : Prop where
  keep : ∀ k F w w', St k F w → (∀ b, F b → w'.heap[b]? = w.heap[b]?) → w.heap.size ≤ w'.heap.size → St k F w'
  lt : ∀ k F w, St k F w → ∀ b, F b → b < w.heap.size
  step : ∀ k F w, k < D.length → St k F w → Calls Try.prog 42 #[.agg (D.getD k rc0).cells, .pointer (some ⟨p, 0, none⟩)] w fun e w' => ∃ F', e = .returned (.tuple #[.agg (D.getD k rc0).cells, .int .i64 (E k)]) ∧ St (k + 1) F' w' ∧ (∀ b, F' b → F b ∨ w.heap.size ≤ b) ∧ Chg F w w'
theorem Clo.grown {p : Nat} {D : List Rc} {E : Nat → Int} {St : Nat → (Nat → Prop) → World → Prop} (hC : Clo p D E St) {k : Nat} {F : Nat → Prop} {w w' : World} {row : Option Nat} (h : St k F w) (hg : w.grownBy w' row) (hr : ∀ g, row = some g → ¬ F g) : St k F w' :=
  hC.keep k F w w' h (fun b hb => hg.block b (hC.lt k F w h b hb) (fun e => hr b e.symm hb)) hg.size
theorem Clo.alloc {p : Nat} {D : List Rc} {E : Nat → Int} {St : Nat → (Nat → Prop) → World → Prop} (hC : Clo p D E St) {k : Nat} {F : Nat → Prop} {w : World} (h : St k F w) (o : Obj) : St k F (w.alloc o) :=
  hC.grown h (World.grownBy_alloc w o none) (by simp)
/-- The two lists that are built, beside the closure's state. -/
structure Two (w : World) (F0 : Nat → Prop) (D : List Rc) (E : Nat → Int) (k : Nat) (v u : Value) (F : Nat → Prop) (wr : World) : Prop where
  ov : wr.ownsRow w.heap.size 40 12 v (pasN D E k).length (recl (pasN D E k))
  ou : wr.ownsRow w.heap.size 57 4 u (rejN E k).length (jcl (rejN E k))
  vu : ∀ g, v.ownBlock = some g → u.ownBlock ≠ some g
  vF : ∀ g, v.ownBlock = some g → ¬ F g
  uF : ∀ g, u.ownBlock = some g → ¬ F g
  old : ∀ b, F b → F0 b ∨ w.heap.size ≤ b
  lt : ∀ b, F b → b < wr.heap.size
  ch : Chg F0 w wr
section
variable {w wr w1 : World} {F0 F F1 : Nat → Prop} {D : List Rc} {E : Nat → Int} {k : Nat} {v u v' u' : Value}
theorem Two.chg (h : Two w F0 D E k v u F wr) (hc : Chg F wr w1) (hF : ∀ b, F1 b → F b ∨ wr.heap.size ≤ b) (hl : ∀ b, F1 b → b < w1.heap.size) : Two w F0 D E k v u F1 w1 where
  ov := own_chg h.ov hc h.vF
  ou := own_chg h.ou hc h.uF
  vu := h.vu
  vF := fun g hg hF1 => by
    rcases hF g hF1 with h1 | h1
    · exact h.vF g hg h1
    · have := (World.ownsRow.lt h.ov g hg).2; omega
  uF := fun g hg hF1 => by
    rcases hF g hF1 with h1 | h1
    · exact h.uF g hg h1
    · have := (World.ownsRow.lt h.ou g hg).2; omega
  old := fun b hb => by
    rcases hF b hb with h1 | h1
    · exact h.old b h1
    · exact .inr (Nat.le_trans h.ch.size h1)
  lt := hl
  ch := h.ch.trans hc (fun q hq hFq => by
    rcases h.old q hFq with h1 | h1
    · exact h1
    · omega)
theorem Two.alloc (h : Two w F0 D E k v u F wr) (o : Obj) : Two w F0 D E k v u F (wr.alloc o) where
  ov := h.ov.alloc o
  ou := h.ou.alloc o
  vu := h.vu
  vF := h.vF
  uF := h.uF
  old := h.old
  lt := fun b hb => by have := h.lt b hb; simp; omega
  ch := h.ch.alloc o
theorem Two.appV (h : Two w F0 D E k v u F wr) (he : E k = 0) (g1 : w1.ownsRow w.heap.size 40 12 v' ((pasN D E k).length + 1) (recl (pasN D E k) ++ recl [D.getD k rc0])) (g2 : wr.grownBy w1 v.ownBlock) (g3 : v'.ownBlock = v.ownBlock ∨ v'.ownBlock = some wr.heap.size) : Two w F0 D E (k + 1) v' u F w1 where
  ov := by rw [pas_yes he, recl_app, List.length_append]; exact g1
  ou := by
    rw [rej_yes he]
    exact h.ou.kept g2 (by
      cases hu : u.ownBlock with
      | none => exact .inl rfl
      | some g => exact .inr (fun e => h.vu g e.symm hu))
  vu := fun g hg hu => by
    rcases g3 with g3 | g3
    · exact h.vu g (g3 ▸ hg) hu
    · rw [g3] at hg; injection hg with hg; have := (World.ownsRow.lt h.ou g hu).2; omega
  vF := fun g hg hF1 => by
    rcases g3 with g3 | g3
    · exact h.vF g (g3 ▸ hg) hF1
    · rw [g3] at hg; injection hg with hg; have := h.lt g hF1; omega
  uF := h.uF
  old := h.old
  lt := fun b hb => Nat.lt_of_lt_of_le (h.lt b hb) g2.size
  ch := h.ch.grown g2 (fun q hq => (World.ownsRow.lt h.ov q hq).1)
theorem Two.appU (h : Two w F0 D E k v u F wr) (he : E k ≠ 0) (g1 : w1.ownsRow w.heap.size 57 4 u' ((rejN E k).length + 1) (jcl (rejN E k) ++ jcl [(0, 0, (k : Int), E k)])) (g2 : wr.grownBy w1 u.ownBlock) (g3 : u'.ownBlock = u.ownBlock ∨ u'.ownBlock = some wr.heap.size) : Two w F0 D E (k + 1) v u' F w1 where
  ou := by rw [rej_no he, jcl_app, List.length_append]; exact g1
  ov := by
    rw [pas_no he]
    exact h.ov.kept g2 (by
      cases hv : v.ownBlock with
      | none => exact .inl rfl
      | some g => exact .inr (fun e => h.vu g hv e.symm))
  vu := fun g hg hu => by
    rcases g3 with g3 | g3
    · exact h.vu g hg (g3 ▸ hu)
    · rw [g3] at hu; injection hu with hu; have := (World.ownsRow.lt h.ov g hg).2; omega
  uF := fun g hg hF1 => by
    rcases g3 with g3 | g3
    · exact h.uF g (g3 ▸ hg) hF1
    · rw [g3] at hg; injection hg with hg; have := h.lt g hF1; omega
  vF := h.vF
  old := h.old
  lt := fun b hb => Nat.lt_of_lt_of_le (h.lt b hb) g2.size
  ch := h.ch.grown g2 (fun q hq => (World.ownsRow.lt h.ou q hq).1)
end
theorem Blk.srcR {w : World} {g : Nat} {t : TypeId} {r : Rc} (h : Blk w g t r.cells) : ∀ j v, (recl [r])[j]? = some v → w.cell? ((⟨g, 0, none⟩ : Addr).add j) = some v := fun j v hj => by
  rw [add_none, Nat.zero_add, h.cell j, ← hj]
  show r.cells[j]? = (r.cells.toList ++ [])[j]?
  simp
theorem Blk.srcJ {w : World} {g : Nat} {t : TypeId} {r : Rj} (h : Blk w g t #[.int .i64 r.1, .int .i64 r.2.1, .int .i64 r.2.2.1, .int .i64 r.2.2.2]) : ∀ j v, (jcl [r])[j]? = some v → w.cell? ((⟨g, 0, none⟩ : Addr).add j) = some v := fun j v hj => by
  rw [add_none, Nat.zero_add, h.cell j, ← hj]
  show (#[Value.int .i64 r.1, .int .i64 r.2.1, .int .i64 r.2.2.1, .int .i64 r.2.2.2] : Array Value)[j]? = [Value.int .i64 r.1, .int .i64 r.2.1, .int .i64 r.2.2.1, .int .i64 r.2.2.2][j]?
  simp
/-- What Collect gives. -/
def ColOut (w : World) (F0 : Nat → Prop) (D : List Rc) (E : Nat → Int) (St : Nat → (Nat → Prop) → World → Prop) (e : Ending) (w' : World) : Prop :=
  ∃ v u F, e = .returned (.tuple #[v, u]) ∧ Two w F0 D E D.length v u F w' ∧ St D.length F w'
set_option maxRecDepth 100000 in
set_option maxHeartbeats 16000000 in
theorem collect_any (A : Option Addr) (n c p : Nat) (D : List Rc) (E : Nat → Int) (St : Nat → (Nat → Prop) → World → Prop) (F0 : Nat → Prop) (w : World) (hC : Clo p D E St) (hS : St 0 F0 w) (hA : RecR w A D) (hAF : ∀ a, A = some a → ¬ F0 a.block) (hn : D.length = n) (h6 : n ≤ 100000) (hc : n ≤ c) (hm : c ≤ maxLen) :
    Calls Try.prog 41 #[.slice A n c, .func (.func 42) #[] #[.pointer (some ⟨p, 0, none⟩)]] w (ColOut w F0 D E St) := by
  obtain ⟨i0, hi0, hz0, hz1, hz2⟩ := info_parts recInfo
  obtain ⟨k0, hk0, hy0, hy1, hy2⟩ := info_parts rejInfo
  unfold maxLen at hm
  have HC := Lib.hid hC; have HA := Lib.hid hA; have HAF := Lib.hid hAF; have HN := Lib.hid hn
  have HTW : Hid (Two w F0 D E 0 (.slice none 0 0) (.slice none 0 0) F0 w) := Lib.hid ⟨World.ownsRow_nil _ _ _ _, World.ownsRow_nil _ _ _ _, by simp [Value.ownBlock], by simp [Value.ownBlock], by simp [Value.ownBlock], fun b hb => .inl hb, hC.lt 0 F0 w hS, Chg.refl _ _⟩
  have HS0 := Lib.hid hS
  clear hC hA hAF hn hS
  go_enter Try.func41, Try.ntmps41
  go_wp2_with fail
  go_loopw [6, 7, 13] (fun v u iv wr => ∃ (k : Nat) (F : Nat → Prop), iv = .int .i64 k ∧ k ≤ n ∧ Hid (Two w F0 D E k v u F wr) ∧ Hid (St k F wr)) (fun _ _ iv _ => n - (intOf iv).toNat)
  case atStart => exact ⟨0, F0, rfl, by omega, HTW, HS0⟩
  case round =>
    obtain ⟨k, F, rfl, hk, HT, HS⟩ := hrel
    by_cases hlt : k < n
    · have hkl : k < D.length := by rw [HN.out]; exact hlt
      have hlt' : (k : Int) < (n : Int) := by omega
      have hkp : (pasN D E k).length ≤ k := pas_len
      have hkj : (rejN E k).length ≤ k := rej_len
      have HAr : Hid (RecR wr A D) := Lib.hid (HA.out.keep HT.out.ch.size (fun a ha hb => HT.out.ch.block _ hb (HAF.out a ha)))
      obtain ⟨bk, off, rfl, hbl, hcs⟩ := HAr.out k hkl
      have hst := HC.out.step k F wr hkl HS.out
      obtain ⟨⟨s0, s1, s2, sa, sb, s5, s6, s7, s8, b9, s10, b11⟩, hp⟩ : ∃ r, D.getD k rc0 = r := ⟨_, rfl⟩
      have HP := Lib.hid hp
      rw [hp] at hcs hst
      obtain ⟨e0, e1, e2, e3, e4, e5, e6, e7, e8, e9, e10, e11⟩ := hcs.all
      simp only at e0 e1 e2 e3 e4 e5 e6 e7 e8 e9 e10 e11
      obtain ⟨x, hx⟩ : ∃ x, E k = x := ⟨_, rfl⟩
      rw [hx] at hst
      have HX := Lib.hid hx
      simp only [Rc.cells] at hst
      have HST := Lib.hid hst
      have HKP := Lib.hid hkp; have HKJ := Lib.hid hkj
      clear hp hcs hkl hst hx hkp hkj
      by_cases hx0 : x = 0
      · subst hx0
        go_wp2_with (first
          | (go_at_call 42; (with_reducible refine HST.out.mono ?_); rintro e w1 ⟨F1, rfl, hs1, hf1, hc1⟩; have HS1 := Lib.hid hs1; have HT1 := Lib.hid (HT.out.chg hc1 hf1 (HC.out.lt _ _ _ hs1)); obtain ⟨c0, c1, c2, c3, c4, c5, c6, c7, c8, c9, c10, c11⟩ := (show RcB (w1.alloc (.cells #[.int .i64 s0, .int .i64 s1, .int .i64 s2, .string sa, .string sb, .int .i64 s5, .int .i64 s6, .int .i64 s7, .int .i64 s8, .bool b9, .int .i64 s10, .bool b11] 40)) w1.heap.size ⟨s0, s1, s2, sa, sb, s5, s6, s7, s8, b9, s10, b11⟩ from heap_alloc_new w1 _).cells; clear e0 e1 e2 e3 e4 e5 e6 e7 e8 e9 e10 e11; clear hs1 hf1 hc1)
          | (at_builtin; refine wpList_append_own_at _ rfl (.tmp 33) (.tmp 35) 32 rfl w.heap.size 40 i0 _ 12 112 Try.underlying32 hi0 hz0 hz1 hz2 rfl (by decide) _ _ (recl (pasN D E k)) rfl ((HT1.out.alloc _).alloc _).ov ⟨w1.heap.size + 1, 0, none⟩ 1 1 (recl [D.getD k rc0]) rfl (by rw [recl_len]; rfl) (by rw [HP.out]; have h := Blk.srcR (r := ⟨s0, s1, s2, sa, sb, s5, s6, s7, s8, b9, s10, b11⟩) (Blk.new (w1.alloc (.cells #[.int .i64 s0, .int .i64 s1, .int .i64 s2, .string sa, .string sb, .int .i64 s5, .int .i64 s6, .int .i64 s7, .int .i64 s8, .bool b9, .int .i64 s10, .bool b11] 40)) 40 #[.int .i64 s0, .int .i64 s1, .int .i64 s2, .string sa, .string sb, .int .i64 s5, .int .i64 s6, .int .i64 s7, .int .i64 s8, .bool b9, .int .i64 s10, .bool b11]); rw [World.size_alloc] at h; exact h) (recl_one _) (by have := HKP.out; unfold maxLen; omega) (by have := HKP.out; omega) (((HT1.out.alloc _).alloc _).ch.size) ?_; intro v4 w4 g1 g2 _ g3; have HT4 := Lib.hid (((HT1.out.alloc _).alloc _).appV HX.out g1 g2 g3); have HS4 := Lib.hid (HC.out.grown (HC.out.alloc (HC.out.alloc HS1.out _) _) g2 HT1.out.vF); clear g1 g2 g3))
        go_roundw
        case rel => exact ⟨k + 1, F1, by go_num, by omega, HT4, HS4⟩
        case measure => simp [intOf]; omega
      · have hxq : (x == 0) = false := by simp [hx0]
        have HXN : Hid (E k ≠ 0) := Lib.hid (by rw [HX.out]; exact hx0)
        clear hx0
        go_wp2_with (first
          | (go_at_call 42; (with_reducible refine HST.out.mono ?_); rintro e w1 ⟨F1, rfl, hs1, hf1, hc1⟩; have HS1 := Lib.hid hs1; have HT1 := Lib.hid (HT.out.chg hc1 hf1 (HC.out.lt _ _ _ hs1)); clear e0 e1 e2 e3 e4 e5 e6 e7 e8 e9 e10 e11; clear hs1 hf1 hc1)
          | (at_builtin; refine wpList_append_own_at _ rfl (.tmp 27) (.tmp 31) 33 rfl w.heap.size 57 k0 _ 4 32 Try.underlying33 hk0 hy0 hy1 hy2 rfl (by decide) _ _ (jcl (rejN E k)) rfl ((HT1.out.alloc _).alloc _).ou ⟨w1.heap.size + 1, 0, none⟩ 1 1 (jcl [(0, 0, (k : Int), E k)]) rfl (by rw [jcl_len]; rfl) (by rw [HX.out]; have h := Blk.srcJ (r := (0, 0, (k : Int), x)) (Blk.new (w1.alloc (.cells #[.int .i64 s0, .int .i64 s1, .int .i64 s2, .string sa, .string sb, .int .i64 s5, .int .i64 s6, .int .i64 s7, .int .i64 s8, .bool b9, .int .i64 s10, .bool b11] 40)) 57 #[.int .i64 0, .int .i64 0, .int .i64 k, .int .i64 x]); rw [World.size_alloc] at h; exact h) (jcl_one _) (by have := HKJ.out; unfold maxLen; omega) (by have := HKJ.out; omega) (((HT1.out.alloc _).alloc _).ch.size) ?_; intro v4 w4 g1 g2 _ g3; have HT4 := Lib.hid (((HT1.out.alloc _).alloc _).appU HXN.out g1 g2 g3); have HS4 := Lib.hid (HC.out.grown (HC.out.alloc (HC.out.alloc HS1.out _) _) g2 HT1.out.uF); clear g1 g2 g3))
        go_roundw
        case rel => exact ⟨k + 1, F1, by go_num, by omega, HT4, HS4⟩
        case measure => simp [intOf]; omega
    · obtain rfl : k = n := by omega
      go_wp2_with fail
      go_ret2
      have h1 := HT.out
      have h2 := HS.out
      rw [← HN.out] at h1 h2
      exact ⟨_, _, F, rfl, h1, h2⟩
end Go.Proofs.Ytgobbeommjjlfaa.Va
