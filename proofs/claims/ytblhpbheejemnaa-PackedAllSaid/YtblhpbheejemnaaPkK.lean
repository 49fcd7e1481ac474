/- 'append(b, make([]byte, m)...)': b the call's own, or full. -/
import Derived.Test.YtblhpbheejemnaaPkM
import Derived.Lib.AppendZerosOnto
namespace Go.Proofs.Ytblhpbheejemnaa
open Go.RowKit
variable {P : Program}

theorem zc_list (m : Nat) : (Builtin.zeroCells (Value.int .u8 0).cells m).toList = C8 (List.replicate m 0) := by
  apply List.ext_getElem
  · simp [Builtin.zeroCells, C8, Value.cells]
  · intro i h1 h2
    simp [Builtin.zeroCells, C8, Value.cells, Nat.mod_one]
theorem run_append_own_zeros (w : World) (base : Nat) (t tn ty e : TypeId) (i : TypeInfo) (k kn : IntKind) (ht : P.underlying t = some (.slice e)) (htn : P.underlying tn = some (.int kn)) (hi : P.info? e = some i) (hz : i.zero = some (.int .u8 0)) (hs : i.size = 1) (hb : i.bytes = 1)
    (v : Value) (n : Nat) (xs : List Value) (hown : w.ownsRow base e 1 v n xs) (m : Nat) (h0 : 0 < m) (h6 : n + m ≤ 1000000) (hbase : base ≤ w.heap.size) :
    ∃ v' w', (Builtin.append_ #[t, tn] ty #[v, .int k m]).run P w = .ok v' w' ∧ w'.ownsRow base e 1 v' (n + m) (xs ++ C8 (List.replicate m 0)) ∧ Below base w w' := by
  have hlen : (xs ++ C8 (List.replicate m 0)).length = (n + m) * 1 := by rw [List.length_append, hown.1, C8_len, List.length_replicate]; omega
  have grown : ∀ (old : Nat), ((w.drew.alloc (.cells (xs.toArray ++ Builtin.zeroCells (Value.int .u8 0).cells m ++ Builtin.zeroCells (Value.int .u8 0).cells (grownCap w (n + m) old e - (n + m))) e)).ownsRow base e 1
        (.slice (some ⟨w.heap.size, 0, none⟩) (n + m) (grownCap w (n + m) old e)) (n + m) (xs ++ C8 (List.replicate m 0))) ∧
      Below base w (w.drew.alloc (.cells (xs.toArray ++ Builtin.zeroCells (Value.int .u8 0).cells m ++ Builtin.zeroCells (Value.int .u8 0).cells (grownCap w (n + m) old e - (n + m))) e)) := by
    intro old
    have hge := grownCap_ge w (n + m) old e
    have hcm : grownCap w (n + m) old e ≤ maxLen := grownCap_le_maxLen w (n + m) old e (by unfold maxLen; omega)
    refine ⟨⟨hlen, .inr ⟨w.heap.size, _, _, rfl, hbase, heap_alloc_new w.drew _, hge, hcm, ?_, ?_⟩⟩, (Below.refl base w.drew).alloc hbase _ |> fun h => ⟨h.os, h.tape, h.output, h.size, h.block⟩⟩
    · simp only [Array.size_append, List.size_toArray, size_zeroCells, hown.1, Nat.mul_one]
      simp only [Value.cells, List.size_toArray, List.length_cons, List.length_nil]
      omega
    · rw [Array.toList_append, Array.toList_append, zc_list, zc_list, List.append_assoc, ← List.append_assoc, ← hlen]
      exact List.take_left
  rcases hown.2 with ⟨rfl, rfl⟩ | ⟨g, cap, cur, rfl, hbg, hg, hnc, hcm, hcs, htake⟩
  · have hx : xs = [] := List.eq_nil_of_length_eq_zero (by simpa using hown.1)
    subst hx
    have hr := Lib.run_append_nil_zeros (P := P) w t tn ty e i (.int .u8 0) k kn ht htn hi hz m h0 (by omega) (by omega) (by rw [hb]; omega)
    have hgr := grown 0
    simp only [Nat.zero_add, Array.empty_append] at hgr ⊢
    exact ⟨_, _, hr, hgr.1, hgr.2⟩
  · by_cases hroom : n + m ≤ cap
    · have hw : IntKind.i64.wrap (m : Int) = m := by rw [IntKind.wrap_i64]; omega
      have hneg : ¬ ((m : Int) < 0) := by omega
      have h48 : ¬ (281474976710656 < (m : Int)) := by omega
      have hns : ¬ (m = 0) := by omega
      have hst := run_storeCells_at P g n e (C8 (List.replicate m 0)) 0 cur w hg (by rw [C8_len, List.length_replicate]; omega) (C8_one _)
      have hadd : (⟨g, 0, none⟩ : Addr).add n = ⟨g, n, none⟩ := by rw [add_none, Nat.zero_add]
      simp only [Nat.add_zero] at hst
      rw [← zc_list] at hst
      have hl : (C8 (List.replicate m 0)).length = m := by rw [C8_len, List.length_replicate]
      refine ⟨.slice (some ⟨g, 0, none⟩) (n + m) cap, w.setRow g (cur.toList.take n ++ C8 (List.replicate m 0) ++ cur.toList.drop (n + m)).toArray, ?_, ⟨hlen, .inr ⟨g, cap, _, rfl, hbg, setRow_heap w g cur _ e _ hg, hroom, hcm, ?_, ?_⟩⟩, ?_⟩
      · rw [zc_list, hl] at hst
        simp [Builtin.append_, run_underlying ht, run_underlying htn, sizeOf, typeInfo, zeroValue, hi, hz, hs, hb, asInt, asIntOf, hw, hneg, h48, hns, hroom, hadd, zc_list, hst]
      · simp only [List.size_toArray, List.length_append, List.length_take, List.length_drop, Array.length_toList, hl]
        omega
      · rw [Nat.mul_one] at htake
        rw [htake, ← hlen]
        exact List.take_left
      · exact (Below.refl base w).grown (row := some g) ⟨rfl, rfl, rfl, by simp [World.setRow], fun k _ hk => setRow_other w g k _ (fun e => hk (by rw [e]))⟩ hbase (fun k hk => by injection hk with hk; omega)
    · have holds : ∀ j u, xs[j]? = some u → w.cell? ((⟨g, 0, none⟩ : Addr).add j) = some u := hown.cells (g := g) rfl
      have hold := run_firstCells_some (P := P) w.drew 1 n ⟨g, 0, none⟩ n cap xs (by have := hown.1; omega) holds
      have hr := Lib.run_append_grow_zeros (P := P) w t tn ty e i (.int .u8 0) k kn ht htn hi hz (some ⟨g, 0, none⟩) n cap xs (by rw [hs]; exact hold) m h0 (by omega) (by omega) (by omega) (by rw [hb]; omega) (growslice_fits (by omega) (by rw [hb]; omega))
      have hgr := grown cap
      exact ⟨_, _, hr, hgr.1, hgr.2⟩
theorem run_append_apt_zeros (w : World) (base : Nat) (t tn ty e : TypeId) (i : TypeInfo) (k kn : IntKind) (ht : P.underlying t = some (.slice e)) (htn : P.underlying tn = some (.int kn)) (hi : P.info? e = some i) (hz : i.zero = some (.int .u8 0)) (hs : i.size = 1) (hb : i.bytes = 1)
    (v : Value) (n : Nat) (xs : List Value) (hv : Apt w base e v n xs) (m : Nat) (h0 : 0 < m) (h6 : n + m ≤ 1000000) (hbase : base ≤ w.heap.size) :
    ∃ v' w', (Builtin.append_ #[t, tn] ty #[v, .int k m]).run P w = .ok v' w' ∧ w'.ownsRow base e 1 v' (n + m) (xs ++ C8 (List.replicate m 0)) ∧ Below base w w' := by
  rcases hv with hv | ⟨ao, rfl, hh⟩
  · exact run_append_own_zeros w base t tn ty e i k kn ht htn hi hz hs hb v n xs hv m h0 h6 hbase
  · have hxl := hh.1
    obtain ⟨_, hx1, h3⟩ := hh
    rcases h3 with ⟨rfl, rfl, _⟩ | ⟨x, rfl, h3⟩
    · obtain rfl : xs = [] := List.eq_nil_of_length_eq_zero hxl
      exact run_append_own_zeros w base t tn ty e i k kn ht htn hi hz hs hb _ 0 [] (World.ownsRow_nil _ _ _ _) m h0 h6 hbase
    · have hold := run_firstCells_some (P := P) w.drew 1 n x n n xs (by omega) (fun j u hj => (h3 j u hj).2)
      have hr := Lib.run_append_grow_zeros (P := P) w t tn ty e i (.int .u8 0) k kn ht htn hi hz (some x) n n xs (by rw [hs]; exact hold) m h0 (by omega) (by omega) (by omega) (by rw [hb]; omega) (growslice_fits (by omega) (by rw [hb]; omega))
      have hge := grownCap_ge w (n + m) n e
      have hcm : grownCap w (n + m) n e ≤ maxLen := grownCap_le_maxLen w (n + m) n e (by unfold maxLen; omega)
      have hlen : (xs ++ C8 (List.replicate m 0)).length = (n + m) * 1 := by rw [List.length_append, hxl, C8_len, List.length_replicate]; omega
      refine ⟨_, _, hr, ⟨hlen, .inr ⟨w.heap.size, _, _, rfl, hbase, heap_alloc_new w.drew _, hge, hcm, ?_, ?_⟩⟩, (Below.refl base w.drew).alloc hbase _ |> fun h => ⟨h.os, h.tape, h.output, h.size, h.block⟩⟩
      · simp only [Array.size_append, List.size_toArray, size_zeroCells, hxl, Nat.mul_one]
        simp only [Value.cells, List.size_toArray, List.length_cons, List.length_nil]
        omega
      · rw [Array.toList_append, Array.toList_append, zc_list, zc_list, List.append_assoc, ← List.append_assoc, ← hlen]
        exact List.take_left
theorem wpList_append_zeros {w : World} {ops : Array Oper} {rest : List Oper} {o : Oper} {a : Act} {Q : Exit → Act → World → Prop} (hgd : o.guard = none) (s x : Operand) (t tn : TypeId)
    (ho : o.op = .call { callee := .builtin .append, args := #[s, x], argTypes := #[t, tn] }) (base : Nat) (e : TypeId) (i : TypeInfo) (k kn : IntKind) (ht : P.underlying t = some (.slice e)) (htn : P.underlying tn = some (.int kn)) (hi : P.info? e = some i) (hz : i.zero = some (.int .u8 0)) (hs : i.size = 1) (hb : i.bytes = 1)
    (v : Value) (n : Nat) (xs : List Value) (m : Nat) (hv : a.eval s = v) (hx : a.eval x = .int k m) (hown : Apt w base e v n xs) (h0 : 0 < m) (h6 : n + m ≤ 1000000) (hbase : base ≤ w.heap.size)
    (h : ∀ v' w', w'.ownsRow base e 1 v' (n + m) (xs ++ C8 (List.replicate m 0)) → Below base w w' → wpList P ops Q rest (a.put o.dst v') w') : wpList P ops Q (o :: rest) a w := by
  obtain ⟨v', w', hr, h1, h2⟩ := run_append_apt_zeros (P := P) w base t tn o.type e i k kn ht htn hi hz hs hb v n xs hown m h0 h6 hbase
  exact Lib.wpList_append_run w hgd s x t tn ho v (.int k m) hv hx v' w' hr (h v' w' h1 h2)
end Go.Proofs.Ytblhpbheejemnaa
