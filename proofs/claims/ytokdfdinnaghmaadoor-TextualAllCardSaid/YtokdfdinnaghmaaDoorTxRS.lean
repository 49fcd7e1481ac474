/- RegS, where the last operation may write a slot that the others read. -/
import Derived.Orders
namespace Go.Proofs.YtokdfdinnaghmaaDoor.Tx
open Go

/-- What operation j has left in its slot. -/
def gotAt (ops : Array Oper) (a : Act) (j : Nat) : Value := a.eval (.tmp (((ops[j]?).bind (·.dst)).getD 1000000))

/-- The state between two operations. -/
structure RAt (ops : Array Oper) (I : World → Prop) (Y : Nat → Value → World → Prop) (a0 : Act) (listed : Array Bool) (a : Act) (w : World) : Prop where
  inv : I w
  y : ∀ j, listed.getD j false = true → Y j (gotAt ops a j) w
  defers : a.defers = a0.defers
  size : a.tmps.size = a0.tmps.size
  same : ∀ (t : Tmp), ops.pop.all (fun o => o.dst != some t) = true → a.tmps.getD t undef = a0.tmps.getD t undef

/-- The form of the region: every slot is written once and lies in the frame, no guards, each waits for earlier ones alone, the last waits for all. -/
structure RFit (md : Region.Mode) (ops : Array Oper) (n size : Nat) (ol : Oper) : Prop where
  len : ops.size = n + 1
  last : ops[n]? = some ol
  guards : ∀ (i : Nat) (o : Oper), ops[i]? = some o → o.guard = none
  acyc : ∀ (i : Nat) (o : Oper), ops[i]? = some o → ∀ e ∈ o.after, Region.binds md e = true → e.on < i
  all : ∀ j, j < n → ∃ e ∈ ol.after, Region.binds md e = true ∧ e.on = j
  dist : ∀ (i j : Nat) (oi oj : Oper) (d : Tmp), ops[i]? = some oi → ops[j]? = some oj → oi.dst = some d → oj.dst = some d → i = j
  full : ∀ (i : Nat) (o : Oper), i < n → ops[i]? = some o → o.dst.isSome = true
  bound : ∀ (i : Nat) (o : Oper) (d : Tmp), ops[i]? = some o → o.dst = some d → d < size

/-- The same, as a test. -/
def rfitB (md : Region.Mode) (ops : Array Oper) (size : Nat) (ol : Oper) : Bool :=
  (ops.size != 0) && (List.range ops.size).all fun i => match ops[i]? with
    | none => true
    | some o => o.guard.isNone && o.after.all (fun e => !Region.binds md e || decide (e.on < i)) &&
        (i + 1 == ops.size || ol.after.any fun e => Region.binds md e && e.on == i) &&
        (i + 1 == ops.size || o.dst.isSome) && (match o.dst with | none => true | some d => decide (d < size) && (List.range ops.size).all fun j => i == j || ((ops[j]?).bind (·.dst)) != some d)

theorem fit_of {md : Region.Mode} {ops : Array Oper} {n size : Nat} {ol : Oper} (h : rfitB md ops size ol = true) (hl : ops.size = n + 1) (hn : ops[n]? = some ol) : RFit md ops n size ol := by
  unfold rfitB at h
  rw [Bool.and_eq_true, List.all_eq_true] at h
  have hk : ∀ (i : Nat) (o : Oper), ops[i]? = some o → _ := fun i o ho => by
    have hi : i < ops.size := (Array.getElem?_eq_some_iff.1 ho).1
    have := h.2 i (List.mem_range.2 hi)
    rw [ho] at this
    exact this
  refine ⟨hl, hn, fun i o ho => ?_, fun i o ho e he hb => ?_, fun j hj => ?_, fun i j oi oj d hi hj h1 h2 => ?_, fun i o hi ho => ?_, fun i o d ho hd => ?_⟩
  · have := hk i o ho
    simp only [Bool.and_eq_true] at this
    simpa using this.1.1.1.1
  · have := hk i o ho
    simp only [Bool.and_eq_true, Array.all_eq_true'] at this
    have := this.1.1.1.2 e he
    rw [hb] at this
    simpa using this
  · have hjs : j < ops.size := by omega
    have := hk j ops[j] (by simp)
    simp only [Bool.and_eq_true, Bool.or_eq_true] at this
    rcases this.1.1.2 with h1 | h1
    · simp at h1; omega
    · rw [Array.any_eq_true] at h1
      obtain ⟨k, hk1, h2⟩ := h1
      simp only [Bool.and_eq_true, beq_iff_eq] at h2
      exact ⟨_, Array.getElem_mem hk1, h2.1, h2.2⟩
  · have := hk i oi hi
    simp only [h1, Bool.and_eq_true, List.all_eq_true] at this
    have h3 := this.2.2 j (List.mem_range.2 (Array.getElem?_eq_some_iff.1 hj).1)
    rw [hj] at h3
    simp only [Option.bind_some, h2, bne_self_eq_false, Bool.or_false, beq_iff_eq] at h3
    exact h3
  · have := hk i o ho
    simp only [Bool.and_eq_true, Bool.or_eq_true, beq_iff_eq] at this
    rcases this.1.2 with h1 | h1
    · omega
    · exact h1
  · have := hk i o ho
    simp only [hd, Bool.and_eq_true, decide_eq_true_eq] at this
    exact this.2.1

variable {P : Program} {md : Region.Mode} {ops : Array Oper} {Q : Exit → Act → World → Prop} {I : World → Prop} {Y : Nat → Value → World → Prop} {a0 : Act}

theorem wpAny_end {listed : Array Bool} {a : Act} {w : World} (hl : ∀ j, j < ops.size → listed.getD j true = true) (h : Q .normal a w) : ∀ fuel, wpAny P md ops Q fuel listed a w := by
  have hr : Region.ready md ops listed = [] := by
    unfold Region.ready
    rw [List.filter_eq_nil_iff]
    intro i hi
    rw [hl i (List.mem_range.1 hi)]
    simp
  intro fuel
  cases fuel with
  | zero => exact ⟨hr, h⟩
  | succ fuel => exact ⟨fun _ => h, fun i hi => by rw [hr] at hi; cases hi⟩

theorem first_open {listed : Array Bool} {n : Nat} (h : listed.getD n true = false) : ∃ k, k ≤ n ∧ listed.getD k true = false ∧ ∀ j, j < k → listed.getD j true = true := by
  induction n using Nat.strongRecOn with
  | ind n ih =>
    by_cases hx : ∃ j, j < n ∧ listed.getD j true = false
    · obtain ⟨j, hj, h1⟩ := hx
      obtain ⟨k, h2, h3⟩ := ih j hj h1
      exact ⟨k, by omega, h3⟩
    · refine ⟨n, Nat.le_refl _, h, fun j hj => ?_⟩
      cases hv : listed.getD j true with
      | true => rfl
      | false => exact absurd ⟨j, hj, hv⟩ hx

theorem got_put_same {a : Act} {i : Nat} {o : Oper} {d : Tmp} {v : Value} (ho : ops[i]? = some o) (hd : o.dst = some d) (hb : d < a.tmps.size) : gotAt ops (a.put o.dst v) i = v := by
  simp [gotAt, ho, hd, Act.put, Act.eval, hb]
theorem got_put_other {a : Act} {j : Nat} {o : Oper} {v : Value} (hn : ∀ d, o.dst = some d → ((ops[j]?).bind (·.dst)).getD 1000000 ≠ d) : gotAt ops (a.put o.dst v) j = gotAt ops a j := by
  unfold gotAt
  cases hd : o.dst with
  | none => rfl
  | some d =>
    have := hn d hd
    simp only [Act.put, Act.eval]
    rw [Array.getD_eq_getD_getElem?, Array.getD_eq_getD_getElem?, Array.getElem?_setIfInBounds_ne (Ne.symm this)]

theorem wpAny_stable {n : Nat} {ol : Oper} (hf : RFit md ops n a0.tmps.size ol) (hsz : a0.tmps.size ≤ 1000000)
    (hstep : ∀ (i : Nat) (o : Oper), i < n → ops[i]? = some o → ∀ (listed : Array Bool) (a : Act) (w : World), RAt ops I Y a0 listed a w → (∀ e ∈ o.after, Region.binds md e = true → Y e.on (gotAt ops a e.on) w) →
      o.wp P a w (fun a' w' => ∃ v, a' = a.put o.dst v ∧ I w' ∧ (∀ j u, Y j u w → Y j u w') ∧ Y i v w') Q)
    (hend : ∀ listed a w, RAt ops I Y a0 listed a w → (∀ j, j < n → Y j (gotAt ops a j) w) → ol.wp P a w (Q .normal) Q) :
    ∀ (fuel : Nat) (listed : Array Bool) (a : Act) (w : World), listed.size = n + 1 → listed.getD n true = false → listed.toList.count false ≤ fuel → RAt ops I Y a0 listed a w → wpAny P md ops Q fuel listed a w := by
  intro fuel
  induction fuel with
  | zero =>
    intro listed a w hs hn hc _
    have h1 : listed[n]? = some false := by
      rw [Array.getD_eq_getD_getElem?, Array.getElem?_eq_getElem (by omega)] at hn
      rw [Array.getElem?_eq_getElem (by omega)]
      simpa using hn
    have h2 : false ∈ listed.toList := by
      rw [Array.mem_toList_iff]; exact Array.mem_of_getElem? h1
    have := List.count_pos_iff.2 h2
    omega
  | succ fuel ih =>
    intro listed a w hs hn hc hA
    refine ⟨fun hr => ?_, fun i hi => ?_⟩
    · obtain ⟨k, hk, h1, h2⟩ := first_open hn
      have hk2 : k < ops.size := by have := hf.len; omega
      have : k ∈ Region.ready md ops listed := mem_ready.2 ⟨h1, ops[k], by simp, fun e he hb => by
        have h3 := hf.acyc k ops[k] (by simp) e he hb
        have h4 := h2 _ h3
        rw [Array.getD_eq_getD_getElem?, Array.getElem?_eq_getElem (by omega)] at h4 ⊢
        simpa using h4⟩
      rw [hr] at this
      cases this
    · obtain ⟨h1, o, ho, hall⟩ := mem_ready.1 hi
      have hg := hf.guards i o ho
      have hio : i < ops.size := (Array.getElem?_eq_some_iff.1 ho).1
      unfold wpOp
      simp only [ho, Region.wanted, hg, if_true]
      refine .inl ?_
      by_cases hin : i = n
      · subst hin
        obtain rfl : ol = o := by have := hf.last; rw [ho] at this; exact (Option.some.inj this).symm
        have hl : ∀ j, j < i → listed.getD j false = true := fun j hj => by
          obtain ⟨e, he, hb, rfl⟩ := hf.all j hj
          exact hall e he hb
        refine Oper.wp_mono (fun a' w' hq => wpAny_end (fun j hj => ?_) hq fuel) (hend listed a w hA fun j hj => hA.y j (hl j hj))
        by_cases hji : j = i
        · subst hji; simp
        · have h3 := hl j (by have := hf.len; omega)
          rw [getD_set_ne true (Ne.symm hji)]
          rw [Array.getD_eq_getD_getElem?, Array.getElem?_eq_getElem (by have := hf.len; omega)] at h3 ⊢
          simpa using h3
      · have hi2 : i < n := by have := hf.len; omega
        refine Oper.wp_mono (fun a' w' hq => ?_) (hstep i o hi2 ho listed a w hA fun e he hb => hA.y _ (hall e he hb))
        obtain ⟨v, rfl, hI, hst, hy⟩ := hq
        refine ih _ _ _ (by simp [hs]) (by rw [getD_set_ne true hin]; exact hn) ?_ ⟨hI, fun j hj => ?_, ?_, ?_, fun t ht => ?_⟩
        · have hli : i < listed.toList.length := by simp; omega
          have h5 : listed.toList[i] = false := by
            rw [Array.getD_eq_getD_getElem?, Array.getElem?_eq_getElem (by omega)] at h1
            simpa using h1
          have h6 := List.count_set (l := listed.toList) (i := i) (a := true) (b := false) hli
          rw [h5] at h6
          have h7 : (true == false) = false := rfl
          have h8 : (false == false) = true := rfl
          rw [h7, h8] at h6
          rw [Array.toList_setIfInBounds, h6]
          simp only [if_true, Bool.false_eq_true, if_false]
          omega
        · by_cases hji : j = i
          · subst hji
            cases hd : o.dst with
            | none => have := hf.full j o hi2 ho; rw [hd] at this; cases this
            | some d =>
              have := got_put_same (a := a) (v := v) ho hd (by rw [hA.size]; exact hf.bound j o d ho hd)
              rw [hd] at this
              rw [this]; exact hy
          · rw [getD_set_ne false (Ne.symm hji)] at hj
            rw [got_put_other]
            · exact hst _ _ (hA.y j hj)
            · intro d hd he
              cases hoj : ops[j]? with
              | none => rw [hoj] at he; have hb := hf.bound i o d ho hd; simp at he; rw [← he] at hb; exact absurd (show (1000000 : Nat) < a0.tmps.size from hb) (by omega)
              | some oj =>
                rw [hoj] at he
                cases hdj : oj.dst with
                | none => simp [hdj] at he; have hb := hf.bound i o d ho hd; rw [← he] at hb; exact absurd (show (1000000 : Nat) < a0.tmps.size from hb) (by omega)
                | some dj =>
                  simp [hdj] at he
                  subst he
                  exact hji (hf.dist j i oj o dj hoj ho hdj hd)
        · cases hd : o.dst <;> simpa [Act.put, hd] using hA.defers
        · cases hd : o.dst <;> simpa [Act.put, hd] using hA.size
        · rw [← hA.same t ht]
          cases hd : o.dst with
          | none => rfl
          | some d =>
            have hne : d ≠ t := fun e => by
              have h9 := Array.all_eq_true'.1 ht o (Array.mem_of_getElem? (i := i) (by rw [Array.getElem?_pop, if_pos (by have := hf.len; omega)]; exact ho))
              rw [hd, e] at h9
              simp at h9
            simp only [Act.put]
            rw [Array.getD_eq_getD_getElem?, Array.getD_eq_getD_getElem?, Array.getElem?_setIfInBounds_ne hne]

/-- The region, from the state ahead of it. -/
theorem wp_region_stable {id n : Nat} {ol : Oper} {w : World} (hm : P.follows .mixedOrders = true) (hf : RFit .any ops n a0.tmps.size ol) (hsz : a0.tmps.size ≤ 1000000) (hI : I { w with drawn := w.drawn + 1 })
   
    (hstep : ∀ (i : Nat) (o : Oper), i < n → ops[i]? = some o → ∀ (listed : Array Bool) (a : Act) (w : World), RAt ops I Y a0 listed a w → (∀ e ∈ o.after, Region.binds .any e = true → Y e.on (gotAt ops a e.on) w) →
      o.wp P a w (fun a' w' => ∃ v, a' = a.put o.dst v ∧ I w' ∧ (∀ j u, Y j u w → Y j u w') ∧ Y i v w') Q)
    (hend : ∀ listed a w, RAt ops I Y a0 listed a w → (∀ j, j < n → Y j (gotAt ops a j) w) → ol.wp P a w (Q .normal) Q) : (Code.region id ops true).wp P Q a0 w := by
  refine wp_region_any hm (wpAny_stable (I := I) (Y := Y) (a0 := a0) hf hsz hstep hend _ _ _ _ (by simp [hf.len]) ?_ ?_ ⟨hI, fun j hj => ?_, rfl, rfl, fun _ _ => rfl⟩)
  · rw [Array.getD_eq_getD_getElem?, Array.getElem?_eq_getElem (by simp [hf.len])]; simp
  · simp [hf.len]
  · rw [Array.getD_eq_getD_getElem?] at hj
    by_cases h : j < ops.size
    · rw [Array.getElem?_eq_getElem (by simpa using h)] at hj; simp at hj
    · rw [Array.getElem?_eq_none (by simpa using Nat.le_of_not_lt h)] at hj; simp at hj

/-- An operation that yields a value and leaves the world as it is. -/
theorem step_val {i : Nat} {o : Oper} {a : Act} {w : World} {v : Value} (h : (execOp a.eval o).run P w = .ok (.value v) w) (hI : I w) (hy : Y i v w) :
    o.wp P a w (fun a' w' => ∃ v, a' = a.put o.dst v ∧ I w' ∧ (∀ j u, Y j u w → Y j u w') ∧ Y i v w') Q := by
  unfold Oper.wp
  rw [h]
  exact ⟨v, rfl, hI, fun _ _ h => h, hy⟩
/-- An operation that yields a value in a new world. -/
theorem step_new {i : Nat} {o : Oper} {a : Act} {w w' : World} {v : Value} (h : (execOp a.eval o).run P w = .ok (.value v) w') (hI : I w') (hst : ∀ j u, Y j u w → Y j u w') (hy : Y i v w') :
    o.wp P a w (fun a' w' => ∃ v, a' = a.put o.dst v ∧ I w' ∧ (∀ j u, Y j u w → Y j u w') ∧ Y i v w') Q := by
  unfold Oper.wp
  rw [h]
  exact ⟨v, rfl, hI, hst, hy⟩
/-- A call. -/
theorem step_call {i : Nat} {o : Oper} {a : Act} {w : World} {f : FuncId} {args : Array Value} (h : (execOp a.eval o).run P w = .ok (.enter f args) w)
    (hc : Calls P f args w fun e w' => ∃ v, e = .returned v ∧ I w' ∧ (∀ j u, Y j u w → Y j u w') ∧ Y i v w') :
    o.wp P a w (fun a' w' => ∃ v, a' = a.put o.dst v ∧ I w' ∧ (∀ j u, Y j u w → Y j u w') ∧ Y i v w') Q := by
  unfold Oper.wp
  rw [h]
  refine hc.mono fun e w' => ?_
  rintro ⟨v, rfl, h1, h2, h3⟩
  exact ⟨v, rfl, h1, h2, h3⟩
theorem lit_succ {α : Type} {l : List α} {n : Nat} (h : l.length = n + 1) : ∃ x t, l = x :: t ∧ t.length = n := by
  cases l with
  | nil => simp at h
  | cons x t => exact ⟨x, t, rfl, by simpa using h⟩
end Go.Proofs.YtokdfdinnaghmaaDoor.Tx
