/- The closure of dedup.Filter as Divide takes it. -/
import Derived.Test.YtgobbeommjjlfaaDdF2
namespace Go.Proofs.Ytgobbeommjjlfaa
open Go.RowKit

theorem own_same {w w' : World} {base e size n : Nat} {v : Value} {xs : List Value} (h : w.ownsRow base e size v n xs) (hb : ∀ g, v.ownBlock = some g → w'.heap[g]? = w.heap[g]?) : w'.ownsRow base e size v n xs := by
  rcases h with ⟨h1, h2 | ⟨g, cap, cur, rfl, hb', hg, r⟩⟩
  · exact ⟨h1, .inl h2⟩
  · exact ⟨h1, .inr ⟨g, cap, cur, rfl, hb', (hb g rfl).trans hg, r⟩⟩
/-- The state of the closure behind k records. -/
def FSt (l : List Rg) (D : List Rc) (base p q : Nat) (k : Nat) (F : Nat → Prop) (w : World) : Prop :=
  ∃ v, Va.Blk w q 22 #[v] ∧ w.ownsRow base 44 3 v (nowL l D k).length (rcl (nowL l D k)) ∧ Va.Blk w p 55 #[.func (.func 35) #[] #[.pointer (some ⟨q, 0, none⟩)]] ∧ (F = fun b => b = p ∨ b = q ∨ v.ownBlock = some b) ∧ base ≤ w.heap.size ∧ (∀ x, v.ownBlock = some x → x ≠ q ∧ x ≠ p) ∧ p ≠ q
theorem fClo (l : List Rg) (D : List Rc) (base p q : Nat) (hl : Can l) (hlen : l.length + D.length ≤ 900000) : Va.Clo p D (fltE l D) (FSt l D base p q) where
  keep := fun k F w w' ⟨v, h1, h2, h3, h4, h5, h6, h7⟩ h hs => by
    subst h4
    exact ⟨v, (h q (.inr (.inl rfl))).trans h1, own_same h2 (fun g hg => h g (.inr (.inr hg))), (h p (.inl rfl)).trans h3, rfl, Nat.le_trans h5 hs, h6, h7⟩
  lt := fun k F w ⟨v, h1, h2, h3, h4, h5, h6, h7⟩ b hb => by
    subst h4
    rcases hb with rfl | rfl | hb
    · exact h3.lt
    · exact h1.lt
    · exact (World.ownsRow.lt h2 b hb).2
  step := fun k F w hk ⟨v, h1, h2, h3, h4, h5, h6, h7⟩ => by
    subst h4
    obtain ⟨hcan, hle⟩ := nowL_can (D := D) hl k
    have hql := h1.lt
    have hpl := h3.lt
    have hG : ∀ b, (b = q ∨ v.ownBlock = some b) → b < w.heap.size := fun b hb => by
      rcases hb with rfl | hb
      · exact hql
      · exact (World.ownsRow.lt h2 b hb).2
    have hpG : ¬ (p = q ∨ v.ownBlock = some p) := fun hb => by
      rcases hb with hb | hb
      · exact h7 hb
      · exact (h6 p hb).2 rfl
    by_cases he : fltE l D k = 0
    · have hD := Va.divide1_f (D.getD k Va.rc0) 0 p q (fun b => b = q ∨ v.ownBlock = some b) (FltOut base q v.ownBlock (adL (D.getD k Va.rc0).s0 (D.getD k Va.rc0).s1 (nowL l D k))) w h3 hG hpG
        (fun W hb => (filter1_yes (D.getD k Va.rc0) (nowL l D k) hcan v _ base q W (h1.below hb hql) (Va.own_keep h2 hb) (Nat.le_trans h5 hb.size) (fun x hx => (h6 x hx).1) rfl (by omega) he).mono fun e w' h => ⟨h.1, h.2, by obtain ⟨_, _, _, _, h4⟩ := h.2; exact h4⟩)
      refine hD.mono fun e w' h => ?_
      obtain ⟨rfl, W, w1, hbW, hWs, ⟨v', g1, g2, g3, g4⟩, hc1, hc2⟩ := h
      have hx' : ∀ x, v'.ownBlock = some x → v.ownBlock = some x ∨ W.heap.size ≤ x := g3
      have hne : ∀ b, b < w.heap.size → b ≠ w.heap.size + 1 := fun b hb => by omega
      have hs1 : W.heap.size ≤ w1.heap.size := hc1.size
      refine ⟨fun b => b = p ∨ b = q ∨ v'.ownBlock = some b, by rw [he], ⟨v', (hc2.block q (by omega) (hne q hql)).trans g1, ?_, ?_, rfl, by have := hc2.size; have := hbW.size; omega, ?_, h7⟩, ?_, ?_⟩
      · rw [nowL_yes he]
        refine own_same g2 fun g hg => hc2.block g (World.ownsRow.lt g2 g hg).2 ?_
        rcases hx' g hg with h | h
        · exact hne g (hG g (.inr h))
        · omega
      · exact (hc2.block p (by omega) (hne p hpl)).trans ((hc1.block p (by have := hbW.size; omega) hpG).trans (h3.below hbW hpl))
      · intro x hx
        rcases hx' x hx with h | h
        · exact h6 x h
        · exact ⟨by omega, by omega⟩
      · intro b hb
        rcases hb with rfl | rfl | hb
        · exact .inl (.inl rfl)
        · exact .inl (.inr (.inl rfl))
        · rcases hx' b hb with h | h
          · exact .inl (.inr (.inr h))
          · exact .inr (by omega)
      · exact ((Va.chg_below hbW : Va.Chg (fun b => b = p ∨ b = q ∨ v.ownBlock = some b) w W).trans hc1 (fun _ _ h => .inr h)).trans hc2 (fun b hb h => absurd h (hne b hb))
    · have hD := Va.divide1_f (D.getD k Va.rc0) (fltE l D k) p q (fun b => b = q ∨ v.ownBlock = some b) (fun W w' => Below W.heap.size W w') w h3 hG hpG
        (fun W hb => (filter1_no (D.getD k Va.rc0) (nowL l D k) hcan v _ base q W (h1.below hb hql) (Va.own_keep h2 hb) rfl (by omega) he).mono fun e w' h => ⟨h.1, h.2, Va.chg_below h.2⟩)
      refine hD.mono fun e w' h => ?_
      obtain ⟨rfl, W, w1, hbW, hWs, hpo, hc1, hc2⟩ := h
      have hne : ∀ b, b < w.heap.size → b ≠ w.heap.size + 1 := fun b hb => by omega
      have hb1 : Below w.heap.size w w1 := hbW.trans (hpo.mono hbW.size)
      have hkeep : ∀ b, b < w.heap.size → w'.heap[b]? = w.heap[b]? := fun b hb => (hc2.block b (by have := hb1.size; omega) (hne b hb)).trans (hb1.block b hb)
      refine ⟨fun b => b = p ∨ b = q ∨ v.ownBlock = some b, rfl, ⟨v, (hkeep q hql).trans h1, ?_, (hkeep p hpl).trans h3, rfl, by have := hc2.size; have := hb1.size; omega, h6, h7⟩, fun b hb => .inl hb, ?_⟩
      · rw [nowL_no he]
        exact own_same h2 fun g hg => hkeep g (hG g (.inr hg))
      · exact (Va.chg_below hb1 : Va.Chg (fun b => b = p ∨ b = q ∨ v.ownBlock = some b) w w1).trans hc2 (fun b hb h => absurd h (hne b hb))
end Go.Proofs.Ytgobbeommjjlfaa
