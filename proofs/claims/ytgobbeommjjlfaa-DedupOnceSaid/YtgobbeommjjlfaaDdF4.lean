/- Walk: dedup.Filter. -/
import Derived.Test.YtgobbeommjjlfaaDdF3
namespace Go.Proofs.Ytgobbeommjjlfaa
open Go.RowKit

set_option maxRecDepth 100000 in
set_option maxHeartbeats 4000000 in
theorem filter_any (A B : Option Addr) (n c m d : Nat) (l : List Rg) (D : List Rc) (w : World) (hl : Can l) (hA : RgR w A l) (hn : l.length = n) (h0 : A = none → n = 0) (hB : Va.RecR w B D) (hBl : ∀ a, B = some a → a.block < w.heap.size) (hm : D.length = m) (h6 : n ≤ 500000) (h7 : m ≤ 100000) (hc : n ≤ c) (hcm : c ≤ maxLen) (hd : m ≤ d) (hdm : d ≤ maxLen) :
    Calls Try.prog 21 #[.slice A n c, .slice B m d] w fun e w' => ∃ t v u, e = .returned (.tuple #[t, v, u]) ∧ w'.ownsRow w.heap.size 44 3 t (nowL l D m).length (rcl (nowL l D m)) ∧ w'.ownsRow w.heap.size 40 12 v (Va.pasN D (fltE l D) m).length (Va.recl (Va.pasN D (fltE l D) m)) ∧ w'.ownsRow w.heap.size 57 4 u (Va.rejD D (fltE l D) m).length (Va.jcl (Va.rejD D (fltE l D) m)) ∧ Below w.heap.size w w' := by
  have HCL := Lib.hid (clone_any A n c l w hA hn h0 (by omega))
  have HDV : Hid (∀ (v1 : Value) (w1 : World), w1.ownsRow w.heap.size 44 3 v1 n (rcl l) → Below w.heap.size w w1 →
      Calls Try.prog 34 #[.slice B m d, .func (.func 35) #[] #[.pointer (some ⟨w1.heap.size, 0, none⟩)]] (w1.alloc (.cells #[v1] 22)) fun e w' => ∃ v u t, e = .returned (.tuple #[v, u]) ∧ Va.Blk w' w1.heap.size 22 #[t] ∧ w'.ownsRow w.heap.size 44 3 t (nowL l D m).length (rcl (nowL l D m)) ∧ w'.ownsRow w.heap.size 40 12 v (Va.pasN D (fltE l D) m).length (Va.recl (Va.pasN D (fltE l D) m)) ∧ w'.ownsRow w.heap.size 57 4 u (Va.rejD D (fltE l D) m).length (Va.jcl (Va.rejD D (fltE l D) m)) ∧ Below w.heap.size w w') := Lib.hid (fun v1 w1 ho hb => by
    have hlt := World.ownsRow.lt ho
    have hb2 : Below w.heap.size w (w1.alloc (.cells #[v1] 22)) := hb.alloc hb.size _
    have hs2 : (w1.alloc (.cells #[v1] 22)).heap.size = w1.heap.size + 1 := by simp
    have hq := Va.Blk.new w1 22 #[v1]
    have hp := Va.Blk.new (w1.alloc (.cells #[v1] 22)) 55 #[.func (.func 35) #[] #[.pointer (some ⟨w1.heap.size, 0, none⟩)]]
    rw [hs2] at hp
    have hws := hb.size
    have hC := fClo l D w.heap.size (w1.heap.size + 1) w1.heap.size hl (by omega)
    have hS : FSt l D w.heap.size (w1.heap.size + 1) w1.heap.size 0 (fun b => b = w1.heap.size + 1 ∨ b = w1.heap.size ∨ v1.ownBlock = some b) ((w1.alloc (.cells #[v1] 22)).alloc (.cells #[.func (.func 35) #[] #[.pointer (some ⟨w1.heap.size, 0, none⟩)]] 55)) :=
      ⟨v1, hq.alloc _, by have := (ho.alloc (.cells #[v1] 22)).alloc (.cells #[.func (.func 35) #[] #[.pointer (some ⟨w1.heap.size, 0, none⟩)]] 55); rw [← hn] at this; exact this, hp, rfl, by simp; omega, fun x hx => ⟨by have := (hlt x hx).2; omega, by have := (hlt x hx).2; omega⟩, by omega⟩
    refine (Va.divide_any B m d 35 w1.heap.size D (fltE l D) (FSt l D w.heap.size (w1.heap.size + 1) w1.heap.size) (fun b => b = w1.heap.size + 1 ∨ b = w1.heap.size ∨ v1.ownBlock = some b) (w1.alloc (.cells #[v1] 22)) (by rw [hs2]; exact hC) hS (hB.below hb2) (fun a ha h => by
      have := hBl a ha
      rcases h with h | h | h
      · omega
      · omega
      · have := (hlt _ h).1; omega) hm h7 hd hdm).mono fun e w' h => ?_
    obtain ⟨v, u, F, rfl, ht, ⟨t, g1, g2, -, -, -, -, -⟩⟩ := h
    rw [hm] at g2
    have h1 := ht.ov
    have h2 := ht.ou
    rw [hm] at h1 h2
    refine ⟨v, u, t, rfl, g1, g2, Va.own_mono h1 (by rw [hs2]; omega), Va.own_mono h2 (by rw [hs2]; omega), ?_⟩
    have hch := ht.ch
    exact ⟨hch.os.trans hb2.os, hch.tape.trans hb2.tape, hch.output.trans hb2.output, Nat.le_trans hb2.size hch.size, fun k hk => (hch.block k (by rw [hs2]; omega) (fun h => by
      rcases h with h | h | h
      · omega
      · omega
      · have := (hlt _ h).1; omega)).trans (hb2.block k hk)⟩)
  obtain ⟨N, hN⟩ : ∃ N, nowL l D m = N := ⟨_, rfl⟩
  obtain ⟨P, hP⟩ : ∃ P, Va.pasN D (fltE l D) m = P := ⟨_, rfl⟩
  obtain ⟨J, hJ⟩ : ∃ J, Va.rejD D (fltE l D) m = J := ⟨_, rfl⟩
  rw [hN, hP, hJ] at HDV ⊢
  have HLN := Lib.hid hn
  clear hl hA hn h0 hB hBl hm h6 h7 hc hcm hd hdm hN hP hJ
  go_enter Try.func21, Try.ntmps21
  go_wp2_with (first
    | (go_at_call 33; (with_reducible refine HCL.out.mono ?_); rintro e w1 ⟨v1, rfl, ho1, hb1⟩; have HDD := Lib.hid (HDV.out v1 w1 ho1 hb1); obtain ⟨A1, m1, rfl, -, -, -⟩ := rg_own ho1 HLN.out; clear ho1 hb1)
    | (go_at_call 34; (with_reducible refine HDD.out.mono ?_); rintro e w2 ⟨v2, u2, t2, rfl, g1, g2, g3, g4, g5⟩; have q0 := g1.one; have HG := Lib.hid (And.intro g2 (And.intro g3 (And.intro g4 g5))); obtain ⟨A2, m2, rfl, -, -, -⟩ := rg_own g2 rfl; clear g1 g2 g3 g4 g5))
  go_ret3
  exact ⟨_, _, _, rfl, HG.out.1, HG.out.2.1, HG.out.2.2.1, HG.out.2.2.2⟩
end Go.Proofs.Ytgobbeommjjlfaa
