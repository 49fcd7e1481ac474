/- Plain mathematics of the law on totals; a list of periods appended to a row of the call's own. -/
import Derived.Test.YtigohhliblgdhaaIvLaw1
namespace Go.Proofs.Ytigohhliblgdhaa
open Go.RowKit

theorem cover_self {l : List Pd} (h : can l) : cmb fCover l [] = l := cmb_uniq rfl h fun _ => rfl
theorem tot_parts (la lb : List Pd) : len (cmb fCover la []) = len (cmb fCover (cmb fMinus la lb) []) + len (cmb fCover (cmb fCommon la lb) []) := by
  obtain ⟨c0, m0⟩ := cmb_spec (f := fCover) rfl la []
  obtain ⟨c1, m1⟩ := cmb_spec (f := fMinus) rfl la lb
  obtain ⟨c2, m2⟩ := cmb_spec (f := fCommon) rfl la lb
  rw [cover_self c1, cover_self c2]
  obtain ⟨N, hN⟩ : ∃ N : Nat, (N : Int) = 12622780800 := ⟨12622780800, rfl⟩
  rw [len_cnt hN c0, len_cnt hN c1, len_cnt hN c2]
  have e : cnt N (mem (cmb fCover la [])) = cnt N (fun t => mem (cmb fMinus la lb) t || mem (cmb fCommon la lb) t) := cnt_congr fun t => by
    rw [m0, m1, m2]
    unfold fCover fMinus fCommon
    cases mem la t <;> cases mem lb t <;> rfl
  rw [e, cnt_or (f := mem (cmb fMinus la lb)) (g := mem (cmb fCommon la lb)) fun t ht => by
    rw [m1] at ht
    rw [m2]
    revert ht
    unfold fMinus fCommon
    cases mem la t <;> cases mem lb t <;> simp]
  omega
theorem tot_apart (la lb : List Pd) : cmb fCommon (cmb fMinus la lb) (cmb fCommon la lb) = [] := by
  obtain ⟨_, m1⟩ := cmb_spec (f := fMinus) rfl la lb
  obtain ⟨_, m2⟩ := cmb_spec (f := fCommon) rfl la lb
  refine cmb_uniq rfl can_nil fun t => ?_
  rw [mem_nil, m1, m2]
  unfold fMinus fCommon
  cases mem la t <;> cases mem lb t <;> rfl
theorem tot_both (la lb : List Pd) : cmb fCover (cmb fCommon la lb ++ cmb fMinus la lb) [] = cmb fCover la [] := by
  obtain ⟨c0, m0⟩ := cmb_spec (f := fCover) rfl la []
  obtain ⟨_, m1⟩ := cmb_spec (f := fMinus) rfl la lb
  obtain ⟨_, m2⟩ := cmb_spec (f := fCommon) rfl la lb
  refine cmb_uniq rfl c0 fun t => ?_
  rw [m0, mem_append, m1, m2]
  unfold fMinus fCommon fCover
  cases mem la t <;> cases mem lb t <;> rfl
theorem tot_minus (la lb : List Pd) : cmb fMinus (cmb fCover la []) (cmb fCover lb []) = cmb fMinus la lb := by
  obtain ⟨_, m0⟩ := cmb_spec (f := fCover) rfl la []
  obtain ⟨_, m0'⟩ := cmb_spec (f := fCover) rfl lb []
  obtain ⟨c1, m1⟩ := cmb_spec (f := fMinus) rfl la lb
  refine cmb_uniq rfl c1 fun t => ?_
  rw [m0, m0', m1]
  rfl
theorem tot_common (la lb : List Pd) : cmb fCommon (cmb fCover lb []) (cmb fCover la []) = cmb fCommon la lb := by
  obtain ⟨_, m0⟩ := cmb_spec (f := fCover) rfl la []
  obtain ⟨_, m0'⟩ := cmb_spec (f := fCover) rfl lb []
  obtain ⟨c1, m1⟩ := cmb_spec (f := fCommon) rfl la lb
  refine cmb_uniq rfl c1 fun t => ?_
  rw [m0, m0', m1]
  unfold fCover fCommon
  cases mem la t <;> cases mem lb t <;> rfl
/-- Nothing is appended: the slice as it was. -/
theorem append_nothing {P : Program} {w : World} {base : Nat} {t ty e : TypeId} {i : TypeInfo} {size : Nat} (ht : P.underlying t = some (.slice e)) (hi : P.info? e = some i)
    {v : Value} {n : Nat} {xs : List Value} (hown : w.ownsRow base e size v n xs) (c : Nat) : (Builtin.append_ #[t, t] ty #[v, .slice none 0 c]).run P w = .ok v w := by
  obtain ⟨_, h2⟩ := hown
  rcases h2 with ⟨rfl, rfl⟩ | ⟨g, cap, cur, rfl, _, _, hnc, _⟩
  · simp [Builtin.append_, run_underlying ht, sizeOf, typeInfo, hi, Builtin.lenOf, Builtin.firstCells]
  · simp [Builtin.append_, run_underlying ht, sizeOf, typeInfo, hi, Builtin.lenOf, Builtin.firstCells, hnc, storeCells]
/-- 'append(s, xs...)', s the call's own, xs a list of periods, nil or not. -/
theorem wpList_append_pr {P : Program} {w : World} {ops : Array Oper} {rest : List Oper} {o : Oper} {a : Act} {Q : Exit → Act → World → Prop} (hgd : o.guard = none) (s x : Operand) (t : TypeId)
    (ho : o.op = .call { callee := .builtin .append, args := #[s, x], argTypes := #[t, t] })
    (base : Nat) (e : TypeId) (i : TypeInfo) (z : Value) (bytes : Nat) (ht : P.underlying t = some (.slice e)) (hi : P.info? e = some i) (hz : i.zero = some z)
    (hsize : i.size = 2) (hby : i.bytes = bytes) (hzs : z.cells.size = 2)
    (v : Value) (m : Nat) (ys : List Value) (hs : a.eval s = v) (hown : w.ownsRow base e 2 v m ys)
    (A : Option Addr) (n c : Nat) (l : List Pd) (hx : a.eval x = .slice A n c) (hp : PR w A l) (hn : l.length = n) (h63 : m + n ≤ maxLen) (hbytes : (m + n) * bytes ≤ 140737488355328) (hbase : base ≤ w.heap.size)
    (h : ∀ v' w', w'.ownsRow base e 2 v' (m + n) (ys ++ cl l) → w.grownBy w' v.ownBlock → wpList P ops Q rest (a.put o.dst v') w') : wpList P ops Q (o :: rest) a w := by
  subst hn
  rcases A with _ | ad
  · have hl : l = [] := by
      rcases Nat.eq_zero_or_pos l.length with h0 | h0
      · exact List.length_eq_zero_iff.1 h0
      · obtain ⟨_, _, hh, _⟩ := hp 0 h0
        cases hh
    subst hl
    refine wpList_plain hgd fun K hK => ?_
    have hrun := append_nothing (ty := o.type) ht hi hown c
    have hx' : a.eval x = .slice none 0 c := hx
    unfold Oper.wp
    simp [execOp, ho, resolve, invoke, builtin, hs, hx', hrun, Result.andThen]
    exact hK _ _ (h v w (by simpa [cl] using hown) (World.grownBy.refl w _))
  · refine wpList_append_own _ hgd s x t ho base e i z 2 bytes ht hi hz hsize hby hzs (by decide) v m ys hs hown ad l.length c (cl l) hx (cl_length l) (fun j u hj => ?_) cl_one h63 hbytes hbase (fun v' w' g1 g2 _ => h v' w' g1 g2)
    have hj' : j < l.length * 2 := by
      rw [← cl_length]
      rcases Nat.lt_or_ge j (cl l).length with h | h
      · exact h
      · rw [List.getElem?_eq_none h] at hj; cases hj
    obtain ⟨b, off, he, _, h0, h1⟩ := hp (j / 2) (by omega)
    injection he with he
    subst he
    have hadd : ((⟨b, off, none⟩ : Addr).add j) = ⟨b, off + j, none⟩ := by unfold Addr.add; split <;> simp_all
    rw [hadd]
    obtain ⟨c0, c1⟩ := cl_at l (j / 2) (by omega)
    rcases (show j % 2 = 0 ∨ j % 2 = 1 by omega) with hr | hr
    · rw [show j / 2 * 2 = j by omega] at h0 c0
      rw [h0, ← hj, c0]
    · rw [show j / 2 * 2 + 1 = j by omega] at c1
      rw [show off + j / 2 * 2 + 1 = off + j by omega] at h1
      rw [h1, ← hj, c1]
end Go.Proofs.Ytigohhliblgdhaa
