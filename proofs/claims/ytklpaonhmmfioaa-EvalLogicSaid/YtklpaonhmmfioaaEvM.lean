/- What the values of expressions are. -/
import Derived.Test.YtklpaonhmmfioaaCkM
namespace Go.Proofs.Ytklpaonhmmfioaa.Ck

/-- The attributes of a usage: kind, units, weekday, minute, total, spent, zone, band, family. -/
structure En where
  a0 : Int
  a1 : Int
  a2 : Int
  a3 : Int
  a4 : Int
  a5 : Int
  zn : ByteArray
  bn : ByteArray
  fm : Bool
def isT (s : ByteArray) (l : List UInt8) : Bool := s.toList == l
def attN (v : En) (s : ByteArray) : Int :=
  if isT s [107, 105, 110, 100] = true then v.a0 else if isT s [117, 110, 105, 116, 115] = true then v.a1 else if isT s [119, 101, 101, 107, 100, 97, 121] = true then v.a2
  else if isT s [109, 105, 110, 117, 116, 101] = true then v.a3 else if isT s [116, 111, 116, 97, 108] = true then v.a4 else v.a5
/-- An integer, if it is a number. -/
def nb (n : Int) : Option Int := if -4611686018427387904 ≤ n ∧ n ≤ 4611686018427387904 then some n else none
def opN (op a b : Int) : Option Int :=
  if op = 11 then nb (a + b) else if op = 12 then nb (a - b) else if op = 13 then nb (a * b)
  else if b = 0 then none else if op = 14 then some (a.tdiv b) else some (a.tmod b)
def opO (op : Int) (x y : Option Int) : Option Int := match x, y with
  | some a, some b => opN op a b
  | _, _ => none
/-- The value of an expression of the sort number. -/
def numV (v : En) : Ex → Option Int
  | .mk op num tx args => if op = 1 then some num else if op = 3 then nb (attN v tx) else opO op ((numsV v args).getD 0 none) ((numsV v args).getD 1 none)
where numsV (v : En) : List Ex → List (Option Int)
  | [] => []
  | e :: t => numV v e :: numsV v t
theorem numV_num (v : En) (num : Int) (tx : ByteArray) (args : List Ex) : numV v (.mk 1 num tx args) = some num := by rw [numV, if_pos rfl]
theorem numV_name (v : En) (num : Int) (tx : ByteArray) (args : List Ex) : numV v (.mk 3 num tx args) = nb (attN v tx) := by rw [numV, if_neg (by decide), if_pos rfl]
theorem numV_two (v : En) {op : Int} (h1 : op ≠ 1) (h3 : op ≠ 3) (num : Int) (tx : ByteArray) (a b : Ex) : numV v (.mk op num tx [a, b]) = opO op (numV v a) (numV v b) := by
  rw [numV, if_neg h1, if_neg h3]; rfl
/-- Is it a text? -/
def isTx : Ex → Bool
  | .mk op _ tx _ => decide (op = 2) || (decide (op = 3) && decide (attr tx = 2))
def txtV (v : En) : Ex → ByteArray
  | .mk op _ tx _ => if op = 2 then tx else if isT tx [122, 111, 110, 101] = true then v.zn else v.bn
/-- Does a comparison hold for operands of this order? -/
def agr (op o : Int) : Bool := if op = 7 then decide (o = 0) else if op = 8 then decide (o ≠ 0) else if op = 9 then decide (o < 0) else decide (o ≤ 0)
def cmpI (a b : Int) : Int := if a < b then -1 else if b < a then 1 else 0
def cmpO (op : Int) (x y : Option Int) : Bool := match x, y with
  | some a, some b => agr op (cmpI a b)
  | _, _ => false
/-- The order of two texts, as far as a comparison asks for it. -/
def cmpT (s t : ByteArray) : Int := if s.toList = t.toList then 0 else 1
def cmpE (v : En) (op : Int) (a b : Ex) : Bool := if isTx a = true then agr op (cmpT (txtV v a) (txtV v b)) else cmpO op (numV v a) (numV v b)
def cmpL (v : En) (op : Int) : List Ex → Bool
  | [a, b] => cmpE v op a b
  | _ => false
/-- Does an expression of the sort truth hold? -/
def hldV (v : En) : Ex → Bool
  | .mk op _ _ args => if op = 3 then v.fm else if op = 4 then !((hldsV v args).getD 0 false) else if op = 5 then ((hldsV v args).getD 0 false) && ((hldsV v args).getD 1 false)
    else if op = 6 then ((hldsV v args).getD 0 false) || ((hldsV v args).getD 1 false) else cmpL v op args
where hldsV (v : En) : List Ex → List Bool
  | [] => []
  | e :: t => hldV v e :: hldsV v t
theorem hldV_name (v : En) (num : Int) (tx : ByteArray) (args : List Ex) : hldV v (.mk 3 num tx args) = v.fm := by rw [hldV, if_pos rfl]
theorem hldV_not (v : En) (num : Int) (tx : ByteArray) (a : Ex) : hldV v (.mk 4 num tx [a]) = !hldV v a := by rw [hldV, if_neg (by decide), if_pos rfl]; rfl
theorem hldV_and (v : En) (num : Int) (tx : ByteArray) (a b : Ex) : hldV v (.mk 5 num tx [a, b]) = (hldV v a && hldV v b) := by rw [hldV, if_neg (by decide), if_neg (by decide), if_pos rfl]; rfl
theorem hldV_or (v : En) (num : Int) (tx : ByteArray) (a b : Ex) : hldV v (.mk 6 num tx [a, b]) = (hldV v a || hldV v b) := by rw [hldV, if_neg (by decide), if_neg (by decide), if_neg (by decide), if_pos rfl]; rfl
theorem hldV_cmp (v : En) {op : Int} (h : 7 ≤ op) (num : Int) (tx : ByteArray) (a b : Ex) : hldV v (.mk op num tx [a, b]) = cmpE v op a b := by
  rw [hldV, if_neg (by omega), if_neg (by omega), if_neg (by omega), if_neg (by omega)]; rfl
/-- What a valid expression with levels left is. -/
theorem sort_cases {k : Nat} {op num : Int} {tx : ByteArray} {args : List Ex} {s : Int} (h : sortX (k + 1) (.mk op num tx args) = (s, 0)) :
    (op = 1 ∧ args = [] ∧ s = 1 ∧ 0 ≤ num ∧ num ≤ 1099511627776) ∨ (op = 2 ∧ args = [] ∧ s = 2) ∨ (op = 3 ∧ args = [] ∧ s = attr tx ∧ isSort s)
    ∨ (op = 4 ∧ s = 3 ∧ ∃ a, args = [a] ∧ sortX k a = (3, 0)) ∨ ((op = 5 ∨ op = 6) ∧ s = 3 ∧ ∃ a b, args = [a, b] ∧ sortX k a = (3, 0) ∧ sortX k b = (3, 0))
    ∨ ((op = 7 ∨ op = 8) ∧ s = 3 ∧ ∃ a b t, args = [a, b] ∧ sortX k a = (t, 0) ∧ sortX k b = (t, 0) ∧ (t = 1 ∨ t = 2))
    ∨ ((op = 9 ∨ op = 10) ∧ s = 3 ∧ ∃ a b, args = [a, b] ∧ sortX k a = (1, 0) ∧ sortX k b = (1, 0))
    ∨ ((op = 11 ∨ op = 12 ∨ op = 13 ∨ op = 14 ∨ op = 15) ∧ s = 1 ∧ ∃ a b, args = [a, b] ∧ sortX k a = (1, 0) ∧ sortX k b = (1, 0)) := by
  rw [sortX] at h
  by_cases h0 : ownE op num tx args.length = 0
  · rw [if_pos h0] at h
    by_cases h1 : (sorts (sortX k) args).2 = 0
    · rw [if_pos h1] at h
      rcases len_cases (l := args) (own_len h0) with ⟨q1, q2, rfl⟩ | ⟨rfl, a, rfl⟩ | ⟨q1, q2, a, b, rfl⟩
      · have hop : op = 1 ∨ op = 2 ∨ op = 3 := by omega
        rcases hop with rfl | rfl | rfl
        · left
          have hs : s = 1 := (congrArg Prod.fst h).symm.trans rfl
          have hb : inB num 0 1099511627776 = true := by
            cases hi : inB num 0 1099511627776
            · exfalso; unfold ownE at h0
              rw [if_neg (by decide), if_pos ⟨rfl, hi⟩] at h0; exact absurd h0 (by decide)
            · rfl
          unfold inB at hb
          rw [Bool.and_eq_true] at hb
          exact ⟨rfl, rfl, hs, of_decide_eq_true hb.1, of_decide_eq_true hb.2⟩
        · right; left
          exact ⟨rfl, rfl, (congrArg Prod.fst h).symm.trans rfl⟩
        · right; right; left
          have ha := own_attr h0
          have e1 : finE 3 tx (sorts (sortX k) []).1 = if attr tx = 0 then (0, 7) else (attr tx, 0) := rfl
          rw [e1, if_neg ha] at h
          have hs : attr tx = s := congrArg Prod.fst h
          exact ⟨rfl, rfl, hs.symm, hs ▸ attr_sort ha⟩
      · right; right; right; left
        rw [sorts] at h h1
        by_cases h2 : (sortX k a).2 = 0
        · rw [if_pos h2] at h
          have h3 : finE 4 tx [(sortX k a).1] = (s, 0) := h
          have hsa := sortX_sort h2
          obtain ⟨u, hu⟩ : ∃ u, (sortX k a).1 = u := ⟨_, rfl⟩
          have hpa : sortX k a = (u, 0) := by rw [← hu, ← h2]
          rw [hu] at h3 hsa
          rcases hsa with rfl | rfl | rfl
          · exact absurd h3 (by unfold finE resE; simp)
          · exact absurd h3 (by unfold finE resE; simp)
          · exact ⟨rfl, (congrArg Prod.fst h3).symm.trans rfl, a, rfl, hpa⟩
        · rw [if_neg h2] at h1; exact absurd h1 h2
      · rw [sorts] at h h1
        by_cases h2 : (sortX k a).2 = 0
        · rw [if_pos h2] at h h1
          have h1' : (sorts (sortX k) [b]).2 = 0 := h1
          rw [sorts] at h h1'
          by_cases h4 : (sortX k b).2 = 0
          · rw [if_pos h4] at h
            have h3 : finE op tx [(sortX k a).1, (sortX k b).1] = (s, 0) := h
            have hsa := sortX_sort h2
            have hsb := sortX_sort h4
            obtain ⟨u, hu⟩ : ∃ u, (sortX k a).1 = u := ⟨_, rfl⟩
            obtain ⟨x, hx⟩ : ∃ x, (sortX k b).1 = x := ⟨_, rfl⟩
            have hpa : sortX k a = (u, 0) := by rw [← hu, ← h2]
            have hpb : sortX k b = (x, 0) := by rw [← hx, ← h4]
            rw [hu, hx] at h3
            rw [hu] at hsa
            rw [hx] at hsb
            have hop : op = 5 ∨ op = 6 ∨ op = 7 ∨ op = 8 ∨ op = 9 ∨ op = 10 ∨ op = 11 ∨ op = 12 ∨ op = 13 ∨ op = 14 ∨ op = 15 := by omega
            clear h h0 h1 h1' h2 h4 hu hx q1 q2
            have hs := congrArg Prod.fst h3
            rcases hop with rfl | rfl | rfl | rfl | rfl | rfl | rfl | rfl | rfl | rfl | rfl <;> rcases hsa with rfl | rfl | rfl <;> rcases hsb with rfl | rfl | rfl <;>
              first
                | (exfalso; revert h3; unfold finE resE; simp; done)
                | exact .inr (.inr (.inr (.inr (.inl ⟨by decide, hs.symm.trans rfl, a, b, rfl, hpa, hpb⟩))))
                | exact .inr (.inr (.inr (.inr (.inr (.inl ⟨by decide, hs.symm.trans rfl, a, b, _, rfl, hpa, hpb, by decide⟩)))))
                | exact .inr (.inr (.inr (.inr (.inr (.inr (.inl ⟨by decide, hs.symm.trans rfl, a, b, rfl, hpa, hpb⟩))))))
                | exact .inr (.inr (.inr (.inr (.inr (.inr (.inr ⟨by decide, hs.symm.trans rfl, a, b, rfl, hpa, hpb⟩))))))
          · rw [if_neg h4] at h1'; exact absurd h1' h4
        · rw [if_neg h2] at h1; exact absurd h1 h2
    · rw [if_neg h1] at h; exact absurd (congrArg Prod.snd h) h1
  · rw [if_neg h0] at h; exact absurd (congrArg Prod.snd h) h0
theorem sort_pos {k : Nat} {e : Ex} {s : Int} (h : sortX k e = (s, 0)) : ∃ j, k = j + 1 := by
  cases k with
  | zero => exact absurd (congrArg Prod.snd h) (by obtain ⟨op, num, tx, args⟩ := e; unfold sortX; simp)
  | succ j => exact ⟨j, rfl⟩
theorem attr_isTx {tx : ByteArray} {op : Int} (h : op = 3) {num : Int} {args : List Ex} : isTx (.mk op num tx args) = decide (attr tx = 2) := by
  subst h; unfold isTx; simp
theorem isTx_sort {k : Nat} {e : Ex} {s : Int} (h : sortX k e = (s, 0)) : isTx e = decide (s = 2) := by
  obtain ⟨j, rfl⟩ := sort_pos h
  obtain ⟨op, num, tx, args⟩ := e
  rcases sort_cases h with ⟨rfl, -, rfl, -⟩ | ⟨rfl, -, rfl⟩ | ⟨rfl, -, rfl, -⟩ | ⟨rfl, rfl, -⟩ | ⟨h1, rfl, -⟩ | ⟨h1, rfl, -⟩ | ⟨h1, rfl, -⟩ | ⟨h1, rfl, -⟩
  · rfl
  · rfl
  · exact attr_isTx rfl
  · rfl
  all_goals (show (decide (op = 2) || (decide (op = 3) && decide (attr tx = 2))) = _; rw [decide_eq_false (show op ≠ 2 by omega), decide_eq_false (show op ≠ 3 by omega)]; rfl)
theorem nb_le {n x : Int} (h : nb n = some x) : -4611686018427387904 ≤ x ∧ x ≤ 4611686018427387904 := by
  unfold nb at h
  split at h
  · cases h; assumption
  · cases h
theorem tdiv_abs (a b : Int) : (a.tdiv b).natAbs ≤ a.natAbs := by
  rw [Int.natAbs_tdiv]; exact Nat.div_le_self _ _
theorem tmod_abs (a b : Int) : (a.tmod b).natAbs ≤ a.natAbs := by
  rw [Int.natAbs_tmod]; exact Nat.mod_le _ _
/-- A value is a number. -/
theorem numV_le (v : En) : ∀ {k : Nat} {e : Ex} {x : Int}, sortX k e = (1, 0) → numV v e = some x → -4611686018427387904 ≤ x ∧ x ≤ 4611686018427387904 := by
  intro k
  induction k with
  | zero => intro e x h; obtain ⟨j, hj⟩ := sort_pos h; cases hj
  | succ k ih =>
    intro e x h hx
    obtain ⟨op, num, tx, args⟩ := e
    rcases sort_cases h with ⟨rfl, -, -, h1, h2⟩ | ⟨rfl, -, h1⟩ | ⟨rfl, -⟩ | ⟨-, h1, -⟩ | ⟨-, h1, -⟩ | ⟨-, h1, -⟩ | ⟨-, h1, -⟩ | ⟨h1, -, a, b, rfl, ha, hb⟩
    · rw [numV_num] at hx; cases hx; omega
    · exact absurd h1 (by decide)
    · rw [numV_name] at hx; exact nb_le hx
    · exact absurd h1 (by decide)
    · exact absurd h1 (by decide)
    · exact absurd h1 (by decide)
    · exact absurd h1 (by decide)
    · rw [numV_two v (by omega) (by omega)] at hx
      cases hna : numV v a with
      | none => rw [hna] at hx; cases hx
      | some p =>
        cases hnb : numV v b with
        | none => rw [hna, hnb] at hx; cases hx
        | some q =>
          rw [hna, hnb] at hx
          have hx : opN op p q = some x := hx
          have hp := ih ha hna
          unfold opN at hx
          (repeat' split at hx)
          · exact nb_le hx
          · exact nb_le hx
          · exact nb_le hx
          · cases hx
          · cases hx; have := tdiv_abs p q; omega
          · cases hx; have := tmod_abs p q; omega
end Go.Proofs.Ytklpaonhmmfioaa.Ck
