/- Walk: the closure of records.Divide, as validate.All makes it. -/
import Derived.Test.YtpmcmafbfboocaaDoorVaC
import Derived.Deep.RegionHeld3
namespace Go.Proofs.YtpmcmafbfboocaaDoor.Va
open Go.RowKit

theorem results_cell2 {P : Program} {fn : Func} {p u : Tmp} {ty : TypeId} (h : fn.results = #[.cell p ty, .tmp u]) (tmps : Array Value) (w : World) (g : Nat) (t : TypeId) (cs : Array Value) (fr : Nat × Nat) (d : TypeDesc)
    (hp : tmps.getD p undef = .pointer (some ⟨g, 0, none⟩)) (hg : w.heap[g]? = some (.cells cs t fr))
    (hu : P.underlying ty = some d) (hd : (match d with | .struct _ | .array _ _ => true | _ => false) = true) (hi : (P.info? ty).map (·.size) = some cs.size) :
    (results fn tmps).run P w = .ok (.tuple #[.agg cs, tmps.getD u undef]) w := by
  have hp' : tmps[p]?.getD undef = .pointer (some ⟨g, 0, none⟩) := by simpa using hp
  simp [results, h, hp', asAddr, run_loadVar_row w g t ty cs fr d hg hu hd hi]
theorem put12 {w : World} {g : Nat} {r0 : Rc} (s0 : Int) (s1 : Int) (s2 : Int) (sa : ByteArray) (sb : ByteArray) (s5 : Int) (s6 : Int) (s7 : Int) (s8 : Int) (b9 : Bool) (s10 : Int) (b11 : Bool) (h : RcB w g r0) : RcB ((((((((((((w.setCell ⟨g, 0, none⟩ (.int .i64 s0)).setCell ⟨g, 1, none⟩ (.int .i64 s1)).setCell ⟨g, 2, none⟩ (.int .i64 s2)).setCell ⟨g, 3, none⟩ (.string sa)).setCell ⟨g, 4, none⟩ (.string sb)).setCell ⟨g, 5, none⟩ (.int .i64 s5)).setCell ⟨g, 6, none⟩ (.int .i64 s6)).setCell ⟨g, 7, none⟩ (.int .i64 s7)).setCell ⟨g, 8, none⟩ (.int .i64 s8)).setCell ⟨g, 9, none⟩ (.bool b9)).setCell ⟨g, 10, none⟩ (.int .i64 s10)).setCell ⟨g, 11, none⟩ (.bool b11)) g ⟨s0, s1, s2, sa, sb, s5, s6, s7, s8, b9, s10, b11⟩ := by
  unfold RcB Rc.cells at *
  simp [World.setCell, Array.getElem?_modify, h]
set_option maxRecDepth 100000 in
set_option maxHeartbeats 4000000 in
theorem divide1_v (r : Rc) (ha : r.sa.size ≤ maxLen) (hb : r.sb.size ≤ maxLen) (lo hi : Int) (p q : Nat) (w : World) (hP : Blk w p 29 #[.func (.func 26) #[] #[.pointer (some ⟨q, 0, none⟩)]]) (hQ : Blk w q 25 #[.int .i64 lo, .int .i64 hi]) :
    Calls Tryd.prog 35 #[.agg r.cells, .pointer (some ⟨p, 0, none⟩)] w fun e w' => e = .returned (.tuple #[.agg r.cells, .int .i64 (allE r lo hi)]) ∧ Below w.heap.size w w' := by
  have HCL := Lib.hid (fun W h => all1_any r ha hb lo hi q W h)
  have HX0 : Hid (RcB (w.alloc (.cells r.cells 23)) w.heap.size r) := Lib.hid (heap_alloc_new w _)
  obtain ⟨z, hz⟩ : ∃ z, allE r lo hi = z := ⟨_, rfl⟩
  rw [hz] at HCL ⊢
  obtain ⟨s0, s1, s2, sa, sb, s5, s6, s7, s8, b9, s10, b11⟩ := r
  have hb0 : Below w.heap.size w ((w.alloc (.cells #[.int .i64 s0, .int .i64 s1, .int .i64 s2, .string sa, .string sb, .int .i64 s5, .int .i64 s6, .int .i64 s7, .int .i64 s8, .bool b9, .int .i64 s10, .bool b11] 23)).alloc (.cells #[.int .i64 0, .int .i64 0, .int .i64 0, .string ⟨#[]⟩, .string ⟨#[]⟩, .int .i64 0, .int .i64 0, .int .i64 0, .int .i64 0, .bool false, .int .i64 0, .bool false] 23)) := ((Below.refl _ w).alloc (Nat.le_refl _) _).alloc (by simp) _
  have HP := Lib.hid (hP.below hb0 hP.lt); have HQ := Lib.hid (hQ.below hb0 hQ.lt)
  have HX : Hid (RcB ((w.alloc (.cells #[.int .i64 s0, .int .i64 s1, .int .i64 s2, .string sa, .string sb, .int .i64 s5, .int .i64 s6, .int .i64 s7, .int .i64 s8, .bool b9, .int .i64 s10, .bool b11] 23)).alloc (.cells #[.int .i64 0, .int .i64 0, .int .i64 0, .string ⟨#[]⟩, .string ⟨#[]⟩, .int .i64 0, .int .i64 0, .int .i64 0, .int .i64 0, .bool false, .int .i64 0, .bool false] 23)) w.heap.size ⟨s0, s1, s2, sa, sb, s5, s6, s7, s8, b9, s10, b11⟩) := Lib.hid (HX0.out.below ((Below.refl _ _).alloc (Nat.le_refl _) _) (by simp))
  have HY : Hid (RcB ((w.alloc (.cells #[.int .i64 s0, .int .i64 s1, .int .i64 s2, .string sa, .string sb, .int .i64 s5, .int .i64 s6, .int .i64 s7, .int .i64 s8, .bool b9, .int .i64 s10, .bool b11] 23)).alloc (.cells #[.int .i64 0, .int .i64 0, .int .i64 0, .string ⟨#[]⟩, .string ⟨#[]⟩, .int .i64 0, .int .i64 0, .int .i64 0, .int .i64 0, .bool false, .int .i64 0, .bool false] 23)) (w.heap.size + 1) rc0) := Lib.hid (by have h := heap_alloc_new (w.alloc (.cells #[.int .i64 s0, .int .i64 s1, .int .i64 s2, .string sa, .string sb, .int .i64 s5, .int .i64 s6, .int .i64 s7, .int .i64 s8, .bool b9, .int .i64 s10, .bool b11] 23)) (.cells #[.int .i64 0, .int .i64 0, .int .i64 0, .string ⟨#[]⟩, .string ⟨#[]⟩, .int .i64 0, .int .i64 0, .int .i64 0, .int .i64 0, .bool false, .int .i64 0, .bool false] 23); rw [World.size_alloc] at h; exact h)
  have hpl := hP.lt
  have hql := hQ.lt
  obtain ⟨g, hg⟩ : ∃ g, w.heap.size = g := ⟨_, rfl⟩
  rw [hg] at hpl hql HX HY
  have HG := Lib.hid hg
  have HB0 := Lib.hid hb0
  obtain ⟨L, hL⟩ : ∃ L, (w.alloc (.cells #[.int .i64 s0, .int .i64 s1, .int .i64 s2, .string sa, .string sb, .int .i64 s5, .int .i64 s6, .int .i64 s7, .int .i64 s8, .bool b9, .int .i64 s10, .bool b11] 23)).alloc (.cells #[.int .i64 0, .int .i64 0, .int .i64 0, .string ⟨#[]⟩, .string ⟨#[]⟩, .int .i64 0, .int .i64 0, .int .i64 0, .int .i64 0, .bool false, .int .i64 0, .bool false] 23) = L := ⟨_, rfl⟩
  rw [hL] at HP HQ HX HY HB0
  unfold Rc.cells at HCL ⊢
  simp only at HCL ⊢
  obtain ⟨c0, c1, c2, c3, c4, c5, c6, c7, c8, c9, c10, c11⟩ := HX.out.cells
  obtain ⟨y0, y1, y2, y3, y4, y5, y6, y7, y8, y9, y10, y11⟩ := HY.out.cells
  have hp0 := HP.out.one
  have hyf : ∀ i, L.frozen? ⟨g + 1, i, none⟩ = false := fun i => by have := HY.out; unfold RcB at this; simp [World.frozen?, this]
  have f0 := hyf 0; have f1 := hyf 1; have f2 := hyf 2; have f3 := hyf 3; have f4 := hyf 4; have f5 := hyf 5; have f6 := hyf 6; have f7 := hyf 7; have f8 := hyf 8; have f9 := hyf 9; have f10 := hyf 10; have f11 := hyf 11
  clear ha hb hP hQ hb0 hz hyf HX0
  go_enter Tryd.func35, Tryd.ntmps35
  go_wp2_with fail
  try rw [hL]
  clear hL hg
  have hgp : g + 1 ≠ p := by omega
  have hgq : g + 1 ≠ q := by omega
  go_region_held3 (fun w' => w'.cell? ⟨g, 0, none⟩ = some (.int .i64 s0) ∧ w'.cell? ⟨g, 1, none⟩ = some (.int .i64 s1) ∧ w'.cell? ⟨g, 2, none⟩ = some (.int .i64 s2) ∧ w'.cell? ⟨g, 3, none⟩ = some (.string sa) ∧ w'.cell? ⟨g, 4, none⟩ = some (.string sb) ∧ w'.cell? ⟨g, 5, none⟩ = some (.int .i64 s5) ∧ w'.cell? ⟨g, 6, none⟩ = some (.int .i64 s6) ∧ w'.cell? ⟨g, 7, none⟩ = some (.int .i64 s7) ∧ w'.cell? ⟨g, 8, none⟩ = some (.int .i64 s8) ∧ w'.cell? ⟨g, 9, none⟩ = some (.bool b9) ∧ w'.cell? ⟨g, 10, none⟩ = some (.int .i64 s10) ∧ w'.cell? ⟨g, 11, none⟩ = some (.bool b11) ∧ w'.cell? ⟨p, 0, none⟩ = some (.func (.func 26) #[] #[.pointer (some ⟨q, 0, none⟩)])) (go_keep)
    (first
      | (go_at_call 26; (with_reducible refine (HCL.out _ HQ.out.drew).mono ?_); rintro e w1 ⟨rfl, hb1⟩; have hbL : Below L.heap.size L w1 := ⟨hb1.os, hb1.tape, hb1.output, hb1.size, hb1.block⟩; obtain ⟨d0, d1, d2, d3, d4, d5, d6, d7, d8, d9, d10, d11⟩ := (HX.out.below hbL (heap_lt HX.out)).cells; have hp1 := (HP.out.below hbL HP.out.lt).one; have HY1 := HY.out.below hbL (heap_lt HY.out); obtain ⟨z0, z1, z2, z3, z4, z5, z6, z7, z8, z9, z10, z11⟩ := HY1.cells; have hyf1 : ∀ i, w1.frozen? ⟨g + 1, i, none⟩ = false := (fun i => by have := HY1; unfold RcB at this; simp [World.frozen?, this]); have h0 := hyf1 0; have h1 := hyf1 1; have h2 := hyf1 2; have h3 := hyf1 3; have h4 := hyf1 4; have h5 := hyf1 5; have h6 := hyf1 6; have h7 := hyf1 7; have h8 := hyf1 8; have h9 := hyf1 9; have h10 := hyf1 10; have h11 := hyf1 11; have HYY := Lib.hid HY1; have HBL := Lib.hid hbL; clear hyf1 HY1 hbL))
  go_wp2_with fail
  have hx := put12 s0 s1 s2 sa sb s5 s6 s7 s8 b9 s10 b11 HYY.out
  have hbw : Below w.heap.size w w1 := HB0.out.trans (HBL.out.mono HB0.out.size)
  have hgw : w.heap.size ≤ g + 1 := by have := HG.out; omega
  refine bodyPost_ret (v := .tuple #[.agg (Rc.cells ⟨s0, s1, s2, sa, sb, s5, s6, s7, s8, b9, s10, b11⟩), .int .i64 z]) (results_cell2 (p := 3) (u := 4) rfl _ _ (g + 1) 23 (Rc.cells ⟨s0, s1, s2, sa, sb, s5, s6, s7, s8, b9, s10, b11⟩) (0, 0) _ rfl hx Tryd.underlying23 rfl rfl) rfl ⟨rfl, ?_⟩
  repeat' apply Below.setCell
  all_goals first | exact hbw | exact hgw
/-- The closure as it is handed to Collect. -/
def VSt (lo hi : Int) (p q : Nat) (_ : Nat) (F : Nat → Prop) (w : World) : Prop :=
  (F = fun b => b = p ∨ b = q) ∧ Blk w p 29 #[.func (.func 26) #[] #[.pointer (some ⟨q, 0, none⟩)]] ∧ Blk w q 25 #[.int .i64 lo, .int .i64 hi]
theorem vClo (D : List Rc) (lo hi : Int) (p q : Nat) (hD : ∀ r ∈ D, r.sa.size ≤ maxLen ∧ r.sb.size ≤ maxLen) : Clo p D (fun k => allE (D.getD k rc0) lo hi) (VSt lo hi p q) where
  keep := fun k F w w' ⟨h1, h2, h3⟩ h hs => by
    subst h1
    exact ⟨rfl, (h p (.inl rfl)).trans h2, (h q (.inr rfl)).trans h3⟩
  lt := fun k F w ⟨h1, h2, h3⟩ b hb => by
    subst h1
    rcases hb with rfl | rfl
    · exact h2.lt
    · exact h3.lt
  step := fun k F w hk ⟨h1, h2, h3⟩ => by
    subst h1
    have hm : D.getD k rc0 ∈ D := by rw [List.getD_eq_getElem?_getD, List.getElem?_eq_getElem hk]; exact List.getElem_mem hk
    refine (divide1_v (D.getD k rc0) (hD _ hm).1 (hD _ hm).2 lo hi p q w h2 h3).mono fun e w' h => ?_
    obtain ⟨rfl, hb⟩ := h
    exact ⟨_, rfl, ⟨rfl, h2.below hb h2.lt, h3.below hb h3.lt⟩, fun b hb => .inl hb, chg_below hb⟩
/-- What All returns. -/
def AllOut (w : World) (D : List Rc) (E : Nat → Int) (e : Ending) (w' : World) : Prop :=
  ∃ v u, e = .returned (.tuple #[v, u]) ∧ w'.ownsRow w.heap.size 23 12 v (pasN D E D.length).length (recl (pasN D E D.length)) ∧ w'.ownsRow w.heap.size 44 4 u (rejD D E D.length).length (jcl (rejD D E D.length)) ∧ Below w.heap.size w w'
set_option maxRecDepth 100000 in
set_option maxHeartbeats 4000000 in
theorem all_any (A : Option Addr) (n c : Nat) (D : List Rc) (lo hi : Int) (w : World) (hD : ∀ r ∈ D, r.sa.size ≤ maxLen ∧ r.sb.size ≤ maxLen) (hA : RecR w A D) (hAl : ∀ a, A = some a → a.block < w.heap.size) (hn : D.length = n) (h6 : n ≤ 100000) (hc : n ≤ c) (hm : c ≤ maxLen) :
    Calls Tryd.prog 15 #[.slice A n c, .agg #[.int .i64 lo, .int .i64 hi]] w (AllOut w D (fun k => allE (D.getD k rc0) lo hi)) := by
  have hb0 : Below w.heap.size w (w.alloc (.cells #[.int .i64 lo, .int .i64 hi] 25)) := (Below.refl _ w).alloc (Nat.le_refl _) _
  have hQ := Blk.new w 25 #[.int .i64 lo, .int .i64 hi]
  have hS : VSt lo hi (w.heap.size + 1) w.heap.size 0 (fun b => b = w.heap.size + 1 ∨ b = w.heap.size) ((w.alloc (.cells #[.int .i64 lo, .int .i64 hi] 25)).alloc (.cells #[.func (.func 26) #[] #[.pointer (some ⟨w.heap.size, 0, none⟩)]] 29)) :=
    ⟨rfl, by have h := Blk.new (w.alloc (.cells #[.int .i64 lo, .int .i64 hi] 25)) 29 #[.func (.func 26) #[] #[.pointer (some ⟨w.heap.size, 0, none⟩)]]; rw [World.size_alloc] at h; exact h, hQ.alloc _⟩
  have HDV := Lib.hid (divide_any A n c 26 w.heap.size D _ (VSt lo hi (w.heap.size + 1) w.heap.size) (fun b => b = w.heap.size + 1 ∨ b = w.heap.size) (w.alloc (.cells #[.int .i64 lo, .int .i64 hi] 25)) (by have h := vClo D lo hi (w.heap.size + 1) w.heap.size hD; rw [World.size_alloc]; exact h) hS (hA.below hb0) (fun a ha h => by have := hAl a ha; rcases h with h | h <;> omega) hn h6 hc hm)
  have HB0 := Lib.hid hb0
  clear hA hAl hn hQ hS hb0 hD
  go_enter Tryd.func15, Tryd.ntmps15
  go_wp2_with (go_at_call 25; (with_reducible refine HDV.out.mono ?_); rintro e w1 ⟨v1, u1, F1, rfl, ht1, hs1⟩)
  go_ret2
  exact ⟨v1, u1, rfl, own_mono ht1.ov HB0.out.size, own_mono ht1.ou HB0.out.size, ⟨ht1.ch.os.trans HB0.out.os, ht1.ch.tape.trans HB0.out.tape, ht1.ch.output.trans HB0.out.output, Nat.le_trans HB0.out.size ht1.ch.size, fun k hk => (ht1.ch.block k (Nat.lt_of_lt_of_le hk HB0.out.size) (by omega)).trans (HB0.out.block k hk)⟩⟩
end Go.Proofs.YtpmcmafbfboocaaDoor.Va
