/- Walks: the laws on pieces, on the sums of seconds. -/
import Derived.Test.YtpbohnlfiaigjaaBdLaw2
namespace Go.Proofs.Ytpbohnlfiaigjaa
open Go.RowKit

/-- The boxes of the arguments of a law. -/
def Bxs (w : World) (g : Nat) (x y : Value) (a b : Int) : Prop := Blk w g 32 #[x, y] ∧ Blk w (g + 1) 37 #[.int .i64 a, .int .i64 b]
theorem Bxs.below {w w' : World} {g : Nat} {x y : Value} {a b : Int} (h : Bxs w g x y a b) (hb : Below w.heap.size w w') : Bxs w' g x y a b := ⟨h.1.below hb h.1.lt, h.2.below hb h.2.lt⟩
theorem Bxs.cells {w : World} {g : Nat} {x y : Value} {a b : Int} (h : Bxs w g x y a b) : w.cell? ⟨g, 0, none⟩ = some x ∧ w.cell? ⟨g, 1, none⟩ = some y ∧ w.cell? ⟨g + 1, 0, none⟩ = some (.int .i64 a) ∧ w.cell? ⟨g + 1, 1, none⟩ = some (.int .i64 b) := ⟨h.1.two.1, h.1.two.2, h.2.two.1, h.2.two.2⟩
theorem Bxs.new (w : World) (x y : Value) (a b : Int) : Bxs ((w.alloc (.cells #[x, y] 32)).alloc (.cells #[.int .i64 a, .int .i64 b] 37)) w.heap.size x y a b := by
  refine ⟨(Blk.new w _ _).alloc _, ?_⟩
  have := Blk.new (w.alloc (.cells #[x, y] 32)) 37 #[.int .i64 a, .int .i64 b]
  simpa using this
set_option maxRecDepth 100000 in
set_option maxHeartbeats 16000000 in
theorem walkBandsPieces (A : Option Addr) (n c : Nat) (l : List Bd) (B : Option Addr) (m c' : Nat) (hol : List Int) (a b : Int) (nm : ByteArray) (w : World) (hA : BdR w A l) (hn : l.length = n) (hc : n ≤ c) (hm : c ≤ maxLen) (hz : ∀ b ∈ l, b.2.length ≤ 6000000000000) (hB : IR w B hol) (hh : hol.length = m) (hc' : m ≤ c') (hm' : c' ≤ maxLen) :
    Calls Try.prog 5 #[.agg #[.slice A n c, .slice B m c'], .agg #[.int .i64 a, .int .i64 b], .string nm] w fun e w' => e = .returned (.bool true) ∧ Below w.heap.size w w' := by
  have HLT := Lib.hid (fun W h => light_any A B n c m c' l W h hn hc hm (by omega) hz)
  have HC1 := Lib.hid (fun hq W h1 h2 => cut_w A B n c m c' l hol a b W h1 hn hc hm h2 hh hc' hm' hq)
  have HC2 := Lib.hid (fun W h1 h2 => refCut_w A B n c m c' l hol a b W h1 hn hc hm h2 hh hc' hm')
  have HS1 := Lib.hid (fun hq W h1 h2 => seconds_any A B n c m c' l hol a b nm W h1 hn hc hm h2 hh hc' hm' hq)
  have HS2 := Lib.hid (fun W h1 h2 => refSeconds_any A B n c m c' l hol a b nm W h1 hn hc hm h2 hh hc' hm')
  obtain ⟨P, hP⟩ : ∃ P, cutW l hol a b = P := ⟨_, rfl⟩
  rw [hP] at HC1 HC2 HS1 HS2
  obtain ⟨sv, hsv⟩ : ∃ v, secs P nm = v := ⟨_, rfl⟩
  rw [hsv] at HS1 HS2
  have HA := Lib.hid hA; have HB := Lib.hid hB
  have HBX := Lib.hid (Bxs.new w (.slice A n c) (.slice B m c') a b)
  have hb0 : Below w.heap.size w ((w.alloc (.cells #[.slice A n c, .slice B m c'] 32)).alloc (.cells #[.int .i64 a, .int .i64 b] 37)) := ((Below.refl _ w).alloc (Nat.le_refl _) _).alloc (by simp) _
  have hs0 := hb0.size
  obtain ⟨x0, x1, x2, x3⟩ := HBX.out.cells
  clear hA hB hn hm hh hz hP hsv hm'
  go_enter Try.func5, Try.ntmps5
  go_wp2_with fail
  refine (HLT.out _ (HA.out.below hb0)).mono ?_
  rintro e w1 ⟨⟨lv, rfl, hlv⟩, hb1⟩
  have hbx := HBX.out.below hb1
  have hl1 := hbx.2.lt
  clear x0 x1 x2 x3
  obtain ⟨x0, x1, x2, x3⟩ := hbx.cells
  have hb2 := hb0.trans (hb1.mono hs0)
  have hs2 := hb2.size
  have HLV := Lib.hid hlv
  have HBX1 := Lib.hid hbx
  clear hb0 hs0 hb1 hbx HLT HBX hlv
  cases lv
  · go_wp2_with (go_at_call 14; (with_reducible refine (awake_any _).mono ?_); rintro e w6 ⟨rfl, hb6⟩; have hb7 := hb2.trans (hb6.mono hs2))
    go_ret
    exact ⟨rfl, hb7⟩
  · have HQ : Hid (ckB l = 0 → nsl l ≤ 100) := Lib.hid (fun h => by have := ((HLV.out rfl).2 h).1; omega)
    clear HLV
    go_wp2_with fail
    go_region_held3 (fun w' => w'.cell? ⟨w.heap.size, 0, none⟩ = some (.slice A n c) ∧ w'.cell? ⟨w.heap.size, 1, none⟩ = some (.slice B m c') ∧ w'.cell? ⟨w.heap.size + 1, 0, none⟩ = some (.int .i64 a) ∧ w'.cell? ⟨w.heap.size + 1, 1, none⟩ = some (.int .i64 b)) (go_keep)
      (first
        | (go_at_call 21; (with_reducible refine (HC1.out HQ.out _ ((HA.out.below hb2).below (drew_self _)) ((HB.out.below hb2).below (drew_self _))).mono ?_); rintro e w3 ⟨R3, r3, rfl, hr3, hr3m, hP3, hb3⟩; have HP3 := Lib.hid hP3; have HX3 := Lib.hid ((HBX1.out.below (drew_self _)).below hb3); obtain ⟨a0, a1, a2, a3⟩ := HX3.out.cells; have hb4 := hb2.trans ((drew_below hb3).mono hs2); have hs4 := hb4.size; clear hP3)
        | (go_at_call 22; (with_reducible refine (HC2.out _ (HA.out.below hb4) (HB.out.below hb4)).mono ?_); rintro e w5 ⟨R5, r5, rfl, hr5, hr5m, hP5, hb5⟩; have HP5 := Lib.hid hP5; have HP35 := Lib.hid (HP3.out.below hb5); have HX5 := Lib.hid (HX3.out.below hb5); obtain ⟨c0, c1, c2, c3⟩ := HX5.out.cells; have hb6 := hb4.trans (hb5.mono hs4); have hs6 := hb6.size; clear hP5)
        | (go_at_call 20; (with_reducible refine (same_pc R3 R5 P.length r3 r5 P _ HP35.out HP5.out rfl hr3 hr3m hr5 hr5m).mono ?_); rintro e w7 ⟨rfl, hb7⟩; have HX7 := Lib.hid (HX5.out.below hb7); obtain ⟨d0, d1, d2, d3⟩ := HX7.out.cells; have hb8 := hb6.trans (hb7.mono hs6); have hs8 := hb8.size)
        | (go_at_call 23; (with_reducible refine (HS1.out HQ.out _ (HA.out.below hb8) (HB.out.below hb8)).mono ?_); rintro e w9 ⟨rfl, hb9⟩; have HX9 := Lib.hid (HX7.out.below hb9); obtain ⟨e0, e1, e2, e3⟩ := HX9.out.cells; have hb10 := hb8.trans (hb9.mono hs8); have hs10 := hb10.size)
        | (go_at_call 24; (with_reducible refine (HS2.out _ (HA.out.below hb10) (HB.out.below hb10)).mono ?_); rintro e w11 ⟨rfl, hb11⟩; have HX11 := Lib.hid (HX9.out.below hb11); obtain ⟨f0, f1, f2, f3⟩ := HX11.out.cells; have hb12 := hb10.trans (hb11.mono hs10); have hs12 := hb12.size)
        | (go_at_call 14; (with_reducible refine (awake_any _).mono ?_); rintro e w13 ⟨rfl, hb13⟩; obtain ⟨k0, k1, k2, k3⟩ := (HX11.out.below hb13).cells; have hb14 := hb12.trans (hb13.mono hs12)))
    go_wp2_with fail
    go_ret
    exact ⟨rfl, hb14⟩
/-- The sum of the seconds of the first bands of a list. -/
def sumS (P : List Pc) (l : List Bd) : Int := ((l.map (·.1)).map (secs P)).sum
theorem sumS_step {P : List Pc} {l : List Bd} {k : Nat} {x : ByteArray} {ss : List Sl} (hk : k < l.length) (hp : l.getD k bd0 = (x, ss)) : sumS P (l.take (k + 1)) = sumS P (l.take k) + secs P x := by
  rw [List.take_succ_eq_append_getElem hk]
  have : l[k] = (x, ss) := by simpa [List.getD, List.getElem?_eq_getElem hk] using hp
  rw [this]
  simp [sumS, List.sum_append]
theorem sumS_all {l : List Bd} (hol : List Int) {a b : Int} (h1 : ckB l = 0) (h2 : vl (a, b) = true) (h3 : b - a ≤ 2678400) : sumS (cutW l hol a b) l = b - a := by
  obtain ⟨g1, g2, g3, g4, g5⟩ := ckB_0 h1
  obtain ⟨v0, v1, v2⟩ := vl_iff.1 h2
  simp only at v0 v1 v2
  rw [cutW_yes h1 h2 h3]
  unfold sumS
  have := secs_all (f := atV l hol) g4 a (b - a).toNat (fun t _ _ => atB_mem g1 _ _)
  rw [show a + ((b - a).toNat : Int) = b by omega] at this
  rw [this]
  omega
theorem secs_empty {l : List Bd} (hol : List Int) {a b : Int} (h1 : ckB l = 0) : secs (cutW l hol a b) ByteArray.empty = 0 := by
  obtain ⟨g1, g2, g3, g4, g5⟩ := ckB_0 h1
  have hne : ∀ t, atV l hol t ≠ ByteArray.empty := fun t he => by
    obtain ⟨d, hd, hn⟩ := List.mem_map.1 (atB_mem g1 (bitOf hol (t / 86400)) (t % 86400 / 60))
    have h := nmOk_ne (g3 d hd)
    have he2 : d.1 = ByteArray.empty := by rw [hn]; exact he
    rw [he2] at h
    exact h rfl
  have key : ∀ P : List Pc, (∀ k, k < P.length → (P.getD k pc0).1 ≠ ByteArray.empty) → secs P ByteArray.empty = 0 := by
    intro P hP
    suffices h : ∀ k, k ≤ P.length → secs (P.take k) ByteArray.empty = 0 by
      have := h P.length (Nat.le_refl _)
      rwa [List.take_length] at this
    intro k
    induction k with
    | zero => intro _; rw [List.take_zero, secs_nil]
    | succ k ih =>
      intro hk
      obtain ⟨⟨m, x, y⟩, hp⟩ : ∃ p, P.getD k pc0 = p := ⟨_, rfl⟩
      have h := hP k (by omega)
      rw [hp] at h
      rw [secs_take (v := false) (show k < P.length by omega) hp (decide_eq_false h), ih (by omega)]
      rfl
  refine key _ fun k hk => ?_
  by_cases hc : ckB l = 0 ∧ vl (a, b) = true ∧ b - a ≤ 2678400
  · obtain ⟨c1, c2, c3⟩ := hc
    rw [cutW_yes c1 c2 c3] at hk ⊢
    obtain ⟨v0, v1, v2⟩ := vl_iff.1 c2
    simp only at v0 v1 v2
    obtain ⟨_, q2, _, q4, _⟩ := (ctP_all (atV l hol) a b v1).1 k hk
    rw [← q4 _ (Int.le_refl _) q2]
    exact hne _
  · have : cutW l hol a b = [] := by unfold cutW; rw [if_neg hc]
    rw [this] at hk
    exact absurd hk (Nat.not_lt_zero k)
theorem sumS_bound {P : List Pc} (h : ∀ n, 0 ≤ secs P n ∧ secs P n ≤ 7173826560000) (l : List Bd) : ∀ k : Nat, k ≤ l.length → 0 ≤ sumS P (l.take k) ∧ sumS P (l.take k) ≤ k * 7173826560000 := by
  intro k
  induction k with
  | zero => intro _; rw [List.take_zero]; exact ⟨Int.le_refl _, by simp [sumS]⟩
  | succ k ih =>
    intro hk
    obtain ⟨i1, i2⟩ := ih (by omega)
    obtain ⟨⟨x, ss⟩, hp⟩ : ∃ p, l.getD k bd0 = p := ⟨_, rfl⟩
    have := h x
    rw [sumS_step (show k < l.length by omega) hp]
    omega
theorem secs_cutW_bound (l : List Bd) (hol : List Int) (a b : Int) (n : ByteArray) : 0 ≤ secs (cutW l hol a b) n ∧ secs (cutW l hol a b) n ≤ 7173826560000 := by
  have h := secs_bound (P := cutW l hol a b) (fun k hk => cutW_at l hol a b hk) n (cutW l hol a b).length (Nat.le_refl _)
  rw [List.take_length] at h
  have h2 := cutW_length l hol a b
  omega
end Go.Proofs.Ytpbohnlfiaigjaa
