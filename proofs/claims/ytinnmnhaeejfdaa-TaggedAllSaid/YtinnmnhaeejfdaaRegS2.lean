/- A drawn region by facts over all that its operations have left. -/
import Derived.Test.YtinnmnhaeejfdaaRegS
namespace Go.Proofs.Ytinnmnhaeejfdaa

/-- The form of the region: every slot is written once and lies in the frame, no guards, each waits for earlier ones alone, the last waits for all. -/
structure RFit2 (md : Region.Mode) (ops : Array Oper) (n size : Nat) (ol : Oper) : Prop where
  len : ops.size = n + 1
  last : ops[n]? = some ol
  guards : ∀ (i : Nat) (o : Oper), ops[i]? = some o → o.guard = none
  acyc : ∀ (i : Nat) (o : Oper), ops[i]? = some o → ∀ e ∈ o.after, Region.binds md e = true → e.on < i
  all : ∀ j, j < n → ∃ e ∈ ol.after, Region.binds md e = true ∧ e.on = j
  dist : ∀ (i j : Nat) (oi oj : Oper) (d : Tmp), ops[i]? = some oi → ops[j]? = some oj → oi.dst = some d → oj.dst = some d → i = j
  bound : ∀ (i : Nat) (o : Oper) (d : Tmp), ops[i]? = some o → o.dst = some d → d < size
def fitB2 (md : Region.Mode) (ops : Array Oper) (size : Nat) (ol : Oper) : Bool :=
  (ops.size != 0) && (List.range ops.size).all fun i => match ops[i]? with
    | none => true
    | some o => o.guard.isNone && o.after.all (fun e => !Region.binds md e || decide (e.on < i)) &&
        (i + 1 == ops.size || ol.after.any fun e => Region.binds md e && e.on == i) &&
        (match o.dst with | none => true | some d => decide (d < size) && (List.range ops.size).all fun j => i == j || ((ops[j]?).bind (·.dst)) != some d)
theorem fit2_of {md : Region.Mode} {ops : Array Oper} {n size : Nat} {ol : Oper} (h : fitB2 md ops size ol = true) (hl : ops.size = n + 1) (hn : ops[n]? = some ol) : RFit2 md ops n size ol := by
  unfold fitB2 at h
  rw [Bool.and_eq_true, List.all_eq_true] at h
  have hk : ∀ (i : Nat) (o : Oper), ops[i]? = some o → _ := fun i o ho => by
    have hi : i < ops.size := (Array.getElem?_eq_some_iff.1 ho).1
    have := h.2 i (List.mem_range.2 hi)
    rw [ho] at this
    exact this
  refine ⟨hl, hn, fun i o ho => ?_, fun i o ho e he hb => ?_, fun j hj => ?_, fun i j oi oj d hi hj h1 h2 => ?_, fun i o d ho hd => ?_⟩
  · have := hk i o ho
    simp only [Bool.and_eq_true] at this
    simpa using this.1.1.1
  · have := hk i o ho
    simp only [Bool.and_eq_true, Array.all_eq_true'] at this
    have := this.1.1.2 e he
    rw [hb] at this
    simpa using this
  · have hjs : j < ops.size := by omega
    have := hk j ops[j] (by simp)
    simp only [Bool.and_eq_true, Bool.or_eq_true] at this
    rcases this.1.2 with h1 | h1
    · simp at h1; omega
    · rw [Array.any_eq_true] at h1
      obtain ⟨k, hk1, h2⟩ := h1
      simp only [Bool.and_eq_true, beq_iff_eq] at h2
      exact ⟨_, Array.getElem_mem hk1, h2.1, h2.2⟩
  · have := hk i oi hi
    simp only [h1, Bool.and_eq_true, List.all_eq_true] at this
    have h3 := this.2.2 j (List.mem_range.2 (Array.getElem?_eq_some_iff.1 hj).1)
    rw [hj] at h3
    simp only [Option.bind_some, h2, bne_self_eq_false, Bool.or_false, beq_iff_eq] at h3
    exact h3
  · have := hk i o ho
    simp only [hd, Bool.and_eq_true, decide_eq_true_eq] at this
    exact this.2.1
/-- The state between two operations; a fact may look at all that has been left. -/
structure RAt2 (md : Region.Mode) (ops : Array Oper) (I : World → Prop) (Y : Nat → (Nat → Value) → World → Prop) (a0 : Act) (listed : Array Bool) (a : Act) (w : World) : Prop where
  inv : I w
  y : ∀ j, listed.getD j false = true → Y j (gotAt ops a) w
  closed : ∀ (j : Nat) (o : Oper), listed.getD j false = true → ops[j]? = some o → ∀ e ∈ o.after, Region.binds md e = true → listed.getD e.on false = true
  defers : a.defers = a0.defers
  size : a.tmps.size = a0.tmps.size
  same : ∀ (t : Tmp), ops.all (fun o => o.dst != some t) = true → a.tmps.getD t undef = a0.tmps.getD t undef

variable {P : Program} {md : Region.Mode} {ops : Array Oper} {Q : Exit → Act → World → Prop} {I : World → Prop} {Y : Nat → (Nat → Value) → World → Prop} {a0 : Act}

theorem wpAny_stable2 {n : Nat} {ol : Oper} (hf : RFit2 md ops n a0.tmps.size ol) (hsz : a0.tmps.size ≤ 1000000)
    (hloc : ∀ (j : Nat) (o : Oper) (g g' : Nat → Value) (w : World), ops[j]? = some o → g j = g' j → (∀ e ∈ o.after, Region.binds md e = true → g e.on = g' e.on) → Y j g w → Y j g' w)
    (hstep : ∀ (i : Nat) (o : Oper), i < n → ops[i]? = some o → ∀ (listed : Array Bool) (a : Act) (w : World), RAt2 md ops I Y a0 listed a w → (∀ e ∈ o.after, Region.binds md e = true → Y e.on (gotAt ops a) w) →
      o.wp P a w (fun a' w' => ∃ v, a' = a.put o.dst v ∧ I w' ∧ (∀ j, j ≠ i → Y j (gotAt ops a) w → Y j (gotAt ops a) w') ∧ Y i (gotAt ops a') w') Q)
    (hend : ∀ (listed : Array Bool) (a : Act) (w : World), RAt2 md ops I Y a0 listed a w → (∀ j, j < n → Y j (gotAt ops a) w) → ol.wp P a w (Q .normal) Q) :
    ∀ (fuel : Nat) (listed : Array Bool) (a : Act) (w : World), listed.size = n + 1 → listed.getD n true = false → listed.toList.count false ≤ fuel → RAt2 md ops I Y a0 listed a w → wpAny P md ops Q fuel listed a w := by
  intro fuel
  induction fuel with
  | zero =>
    intro listed a w hs hn hc _
    have h1 : listed[n]? = some false := by
      rw [Array.getD_eq_getD_getElem?, Array.getElem?_eq_getElem (by omega)] at hn
      rw [Array.getElem?_eq_getElem (by omega)]
      simpa using hn
    have h2 : false ∈ listed.toList := by
      rw [Array.mem_toList_iff]; exact Array.mem_of_getElem? h1
    have := List.count_pos_iff.2 h2
    omega
  | succ fuel ih =>
    intro listed a w hs hn hc hA
    refine ⟨fun hr => ?_, fun i hi => ?_⟩
    · obtain ⟨k, hk, h1, h2⟩ := first_open hn
      have hk2 : k < ops.size := by have := hf.len; omega
      have : k ∈ Region.ready md ops listed := mem_ready.2 ⟨h1, ops[k], by simp, fun e he hb => by
        have h3 := hf.acyc k ops[k] (by simp) e he hb
        have h4 := h2 _ h3
        rw [Array.getD_eq_getD_getElem?, Array.getElem?_eq_getElem (by omega)] at h4 ⊢
        simpa using h4⟩
      rw [hr] at this
      cases this
    · obtain ⟨h1, o, ho, hall⟩ := mem_ready.1 hi
      have hg := hf.guards i o ho
      have hio : i < ops.size := (Array.getElem?_eq_some_iff.1 ho).1
      unfold wpOp
      simp only [ho, Region.wanted, hg, if_true]
      refine .inl ?_
      by_cases hin : i = n
      · subst hin
        obtain rfl : ol = o := by have := hf.last; rw [ho] at this; exact (Option.some.inj this).symm
        have hl : ∀ j, j < i → listed.getD j false = true := fun j hj => by
          obtain ⟨e, he, hb, rfl⟩ := hf.all j hj
          exact hall e he hb
        refine Oper.wp_mono (fun a' w' hq => wpAny_end (fun j hj => ?_) hq fuel) (hend listed a w hA fun j hj => hA.y j (hl j hj))
        by_cases hji : j = i
        · subst hji; simp
        · have h3 := hl j (by have := hf.len; omega)
          rw [getD_set_ne true (Ne.symm hji)]
          rw [Array.getD_eq_getD_getElem?, Array.getElem?_eq_getElem (by have := hf.len; omega)] at h3 ⊢
          simpa using h3
      · have hi2 : i < n := by have := hf.len; omega
        refine Oper.wp_mono (fun a' w' hq => ?_) (hstep i o hi2 ho listed a w hA fun e he hb => hA.y _ (hall e he hb))
        obtain ⟨v, rfl, hI, hst, hy⟩ := hq
        have hnl : ∀ j, listed.getD j false = true → j ≠ i := fun j hj e => by
          subst e
          rw [Array.getD_eq_getD_getElem?, Array.getElem?_eq_getElem (by omega)] at hj h1
          simp at hj h1
          rw [hj] at h1; cases h1
        have hgo : ∀ j, j ≠ i → gotAt ops (a.put o.dst v) j = gotAt ops a j := fun j hji => by
          refine got_put_other fun d hd he => ?_
          cases hoj : ops[j]? with
          | none => rw [hoj] at he; have hb := hf.bound i o d ho hd; simp at he; rw [← he] at hb; exact absurd (show (1000000 : Nat) < a0.tmps.size from hb) (by omega)
          | some oj =>
            rw [hoj] at he
            cases hdj : oj.dst with
            | none => simp [hdj] at he; have hb := hf.bound i o d ho hd; rw [← he] at hb; exact absurd (show (1000000 : Nat) < a0.tmps.size from hb) (by omega)
            | some dj =>
              simp [hdj] at he
              subst he
              exact hji (hf.dist j i oj o dj hoj ho hdj hd)
        refine ih _ _ _ (by simp [hs]) (by rw [getD_set_ne true hin]; exact hn) ?_ ⟨hI, fun j hj => ?_, fun j oj hj hoj e he hb => ?_, ?_, ?_, fun t ht => ?_⟩
        · have hli : i < listed.toList.length := by simp; omega
          have h5 : listed.toList[i] = false := by
            rw [Array.getD_eq_getD_getElem?, Array.getElem?_eq_getElem (by omega)] at h1
            simpa using h1
          have h6 := List.count_set (l := listed.toList) (i := i) (a := true) (b := false) hli
          rw [h5] at h6
          have h7 : (true == false) = false := rfl
          have h8 : (false == false) = true := rfl
          rw [h7, h8] at h6
          rw [Array.toList_setIfInBounds, h6]
          simp only [if_true, Bool.false_eq_true, if_false]
          omega
        · by_cases hji : j = i
          · subst hji; exact hy
          · rw [getD_set_ne false (Ne.symm hji)] at hj
            cases hoj : ops[j]? with
            | none =>
              have : listed.getD j false = false := by
                rw [Array.getD_eq_getD_getElem?, Array.getElem?_eq_none (by have := Array.getElem?_eq_none_iff.1 hoj; have := hf.len; omega)]; rfl
              rw [this] at hj; cases hj
            | some oj =>
              exact hloc j oj _ _ w' hoj (hgo j hji).symm (fun e he hb => (hgo _ (hnl _ (hA.closed j oj hj hoj e he hb))).symm) (hst j hji (hA.y j hj))
        · by_cases hji : j = i
          · subst hji
            obtain rfl : o = oj := by rw [ho] at hoj; exact Option.some.inj hoj
            exact getD_set_true (hall e he hb)
          · rw [getD_set_ne false (Ne.symm hji)] at hj
            exact getD_set_true (hA.closed j oj hj hoj e he hb)
        · cases hd : o.dst <;> simpa [Act.put, hd] using hA.defers
        · cases hd : o.dst <;> simpa [Act.put, hd] using hA.size
        · rw [← hA.same t ht]
          cases hd : o.dst with
          | none => rfl
          | some d =>
            have hne : d ≠ t := fun e => by
              have h9 := Array.all_eq_true'.1 ht o (Array.mem_of_getElem? ho)
              rw [hd, e] at h9
              simp at h9
            simp only [Act.put]
            rw [Array.getD_eq_getD_getElem?, Array.getD_eq_getD_getElem?, Array.getElem?_setIfInBounds_ne hne]
/-- The region, from the state ahead of it. -/
theorem wp_region_stable2 {id n : Nat} {ol : Oper} {w : World} (hm : P.follows .mixedOrders = true) (hf : RFit2 .any ops n a0.tmps.size ol) (hsz : a0.tmps.size ≤ 1000000) (hI : I { w with drawn := w.drawn + 1 })
    (hloc : ∀ (j : Nat) (o : Oper) (g g' : Nat → Value) (w : World), ops[j]? = some o → g j = g' j → (∀ e ∈ o.after, Region.binds .any e = true → g e.on = g' e.on) → Y j g w → Y j g' w)
    (hstep : ∀ (i : Nat) (o : Oper), i < n → ops[i]? = some o → ∀ (listed : Array Bool) (a : Act) (w : World), RAt2 .any ops I Y a0 listed a w → (∀ e ∈ o.after, Region.binds .any e = true → Y e.on (gotAt ops a) w) →
      o.wp P a w (fun a' w' => ∃ v, a' = a.put o.dst v ∧ I w' ∧ (∀ j, j ≠ i → Y j (gotAt ops a) w → Y j (gotAt ops a) w') ∧ Y i (gotAt ops a') w') Q)
    (hend : ∀ (listed : Array Bool) (a : Act) (w : World), RAt2 .any ops I Y a0 listed a w → (∀ j, j < n → Y j (gotAt ops a) w) → ol.wp P a w (Q .normal) Q) : (Code.region id ops true).wp P Q a0 w := by
  refine wp_region_any hm (wpAny_stable2 (I := I) (Y := Y) (a0 := a0) hf hsz hloc hstep hend _ _ _ _ (by simp [hf.len]) ?_ ?_ ⟨hI, fun j hj => ?_, fun j o hj => ?_, rfl, rfl, fun _ _ => rfl⟩)
  · rw [Array.getD_eq_getD_getElem?, Array.getElem?_eq_getElem (by simp [hf.len])]; simp
  · simp [hf.len]
  · rw [Array.getD_eq_getD_getElem?] at hj
    by_cases h : j < ops.size
    · rw [Array.getElem?_eq_getElem (by simpa using h)] at hj; simp at hj
    · rw [Array.getElem?_eq_none (by simpa using Nat.le_of_not_lt h)] at hj; simp at hj
  · rw [Array.getD_eq_getD_getElem?] at hj
    by_cases h : j < ops.size
    · rw [Array.getElem?_eq_getElem (by simpa using h)] at hj; simp at hj
    · rw [Array.getElem?_eq_none (by simpa using Nat.le_of_not_lt h)] at hj; simp at hj

theorem got_upd {n size i : Nat} {ol o : Oper} {d : Tmp} {a : Act} {v : Value} (hf : RFit2 md ops n size ol) (hs : a.tmps.size = size) (hsz : size ≤ 1000000) (ho : ops[i]? = some o) (hd : o.dst = some d) :
    gotAt ops (a.put o.dst v) = fun j => if j = i then v else gotAt ops a j := by
  funext j
  by_cases hji : j = i
  · subst hji
    rw [if_pos rfl]
    exact got_put_same ho hd (by rw [hs]; exact hf.bound j o d ho hd)
  · rw [if_neg hji]
    refine got_put_other fun d hd he => ?_
    cases hoj : ops[j]? with
    | none => rw [hoj] at he; have hb := hf.bound i o d ho hd; simp at he; rw [← he] at hb; exact absurd (show (1000000 : Nat) < size from hb) (by omega)
    | some oj =>
      rw [hoj] at he
      cases hdj : oj.dst with
      | none => simp [hdj] at he; have hb := hf.bound i o d ho hd; rw [← he] at hb; exact absurd (show (1000000 : Nat) < size from hb) (by omega)
      | some dj =>
        simp [hdj] at he
        subst he
        exact hji (hf.dist j i oj o dj hoj ho hdj hd)
/-- An operation that yields a value. -/
theorem s2_val {n size i : Nat} {ol o : Oper} {d : Tmp} {a : Act} {w w' : World} {v : Value} (hf : RFit2 md ops n size ol) (hs : a.tmps.size = size) (hsz : size ≤ 1000000) (ho : ops[i]? = some o) (hd : o.dst = some d)
    (h : (execOp a.eval o).run P w = .ok (.value v) w') (hI : I w') (hst : ∀ j, j ≠ i → Y j (gotAt ops a) w → Y j (gotAt ops a) w') (hy : Y i (fun j => if j = i then v else gotAt ops a j) w') :
    o.wp P a w (fun a' w' => ∃ v, a' = a.put o.dst v ∧ I w' ∧ (∀ j, j ≠ i → Y j (gotAt ops a) w → Y j (gotAt ops a) w') ∧ Y i (gotAt ops a') w') Q := by
  unfold Oper.wp
  rw [h]
  exact ⟨v, rfl, hI, hst, by rw [got_upd hf hs hsz ho hd]; exact hy⟩
/-- A call. -/
theorem s2_call {n size i : Nat} {ol o : Oper} {d : Tmp} {a : Act} {w : World} {f : FuncId} {args : Array Value} (hf : RFit2 md ops n size ol) (hs : a.tmps.size = size) (hsz : size ≤ 1000000) (ho : ops[i]? = some o) (hd : o.dst = some d)
    (h : (execOp a.eval o).run P w = .ok (.enter f args) w)
    (hc : Calls P f args w fun e w' => ∃ v, e = .returned v ∧ I w' ∧ (∀ j, j ≠ i → Y j (gotAt ops a) w → Y j (gotAt ops a) w') ∧ Y i (fun j => if j = i then v else gotAt ops a j) w') :
    o.wp P a w (fun a' w' => ∃ v, a' = a.put o.dst v ∧ I w' ∧ (∀ j, j ≠ i → Y j (gotAt ops a) w → Y j (gotAt ops a) w') ∧ Y i (gotAt ops a') w') Q := by
  unfold Oper.wp
  rw [h]
  refine hc.mono fun e w' => ?_
  rintro ⟨v, rfl, h1, h2, h3⟩
  exact ⟨v, rfl, h1, h2, by rw [got_upd hf hs hsz ho hd]; exact h3⟩
/-- An operation that leaves nothing in a slot. -/
theorem s2_store {i : Nat} {o : Oper} {a : Act} {w : World} (hd : o.dst = none)
    (h : o.wp P a w (fun a' w' => a' = a ∧ I w' ∧ (∀ j, j ≠ i → Y j (gotAt ops a) w → Y j (gotAt ops a) w') ∧ Y i (gotAt ops a) w') Q) :
    o.wp P a w (fun a' w' => ∃ v, a' = a.put o.dst v ∧ I w' ∧ (∀ j, j ≠ i → Y j (gotAt ops a) w → Y j (gotAt ops a) w') ∧ Y i (gotAt ops a') w') Q := by
  refine Oper.wp_mono (fun a' w' hq => ?_) h
  obtain ⟨rfl, h1, h2, h3⟩ := hq
  exact ⟨undef, by rw [hd]; rfl, h1, h2, h3⟩
end Go.Proofs.Ytinnmnhaeejfdaa
