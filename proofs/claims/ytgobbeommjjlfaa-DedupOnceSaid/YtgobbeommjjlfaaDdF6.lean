/- Walk: the reference's Filter. -/
import Derived.Test.YtgobbeommjjlfaaDdF5
namespace Go.Proofs.Ytgobbeommjjlfaa
open Go.RowKit

/-- 'append(s, xs...)', s the call's own, xs nil or not. -/
theorem wpList_append_any {P : Program} {w : World} {ops : Array Oper} {rest : List Oper} {o : Oper} {a : Act} {Q : Exit → Act → World → Prop} (hgd : o.guard = none) (s x : Operand) (t : TypeId)
    (ho : o.op = .call { callee := .builtin .append, args := #[s, x], argTypes := #[t, t] })
    (base : Nat) (e : TypeId) (i : TypeInfo) (z : Value) (size bytes : Nat) (ht : P.underlying t = some (.slice e)) (hi : P.info? e = some i) (hz : i.zero = some z)
    (hsize : i.size = size) (hby : i.bytes = bytes) (hzs : z.cells.size = size) (hsz : 0 < size)
    (v : Value) (n : Nat) (xs : List Value) (hs : a.eval s = v) (hown : w.ownsRow base e size v n xs)
    (A : Option Addr) (m c : Nat) (news : List Value) (hx : a.eval x = .slice A m c) (hl : news.length = m * size) (hA : A = none → m = 0) (hnews : ∀ ad, A = some ad → ∀ j u, news[j]? = some u → w.cell? (ad.add j) = some u) (h1 : ∀ u ∈ news, u.oneCell' = true)
    (h63 : n + m ≤ maxLen) (hbytes : (n + m) * bytes ≤ 140737488355328) (hbase : base ≤ w.heap.size)
    (h : ∀ v' w', w'.ownsRow base e size v' (n + m) (xs ++ news) → w.grownBy w' v.ownBlock → wpList P ops Q rest (a.put o.dst v') w') : wpList P ops Q (o :: rest) a w := by
  cases A with
  | some ad => exact wpList_append_own _ hgd s x t ho base e i z size bytes ht hi hz hsize hby hzs hsz v n xs hs hown ad m c news hx hl (hnews ad rfl) h1 h63 hbytes hbase (fun v' w' g1 g2 _ => h v' w' g1 g2)
  | none =>
    obtain rfl := hA rfl
    obtain rfl : news = [] := List.eq_nil_of_length_eq_zero (by simpa using hl)
    refine wpList_plain hgd fun K hK => ?_
    have hrun : (Builtin.append_ #[t, t] o.type #[v, .slice none 0 c]).run P w = .ok v w := by
      rcases hown.2 with ⟨rfl, rfl⟩ | ⟨g, cap, cur, rfl, hb, hg, hnc, hcm, hcs, htake⟩
      · simp [Builtin.append_, run_underlying ht, sizeOf, typeInfo, hi, Builtin.lenOf, Builtin.firstCells, loadCells, loadCellsFrom]
      · simp [Builtin.append_, run_underlying ht, sizeOf, typeInfo, hi, Builtin.lenOf, Builtin.firstCells, loadCells, loadCellsFrom, storeCells, hnc]
    unfold Oper.wp
    simp [execOp, ho, resolve, invoke, builtin, hs, hx, hrun, Result.andThen]
    exact hK _ _ (h v w (by simpa using hown) (World.grownBy.refl w _))
theorem below_lit3 (w : World) (o : Obj) : Below w.heap.size w (w.alloc o) := (Below.refl _ _).alloc (Nat.le_refl _) o
/-- What the reference's Filter gives. -/
def RFOut (w : World) (L : List Rg) (P : List Rc) (J : List Va.Rj) (e : Ending) (w' : World) : Prop :=
  ∃ t v u, e = .returned (.tuple #[t, v, u]) ∧ Thr w L P J t v u w'
theorem rfs_why {l : List Rg} {s x : Int} (h : rfs l s x ≠ 0) : rfs l s x = if idB s x = true then 13 else 6 := by
  unfold rfs at h ⊢
  split
  · rename_i h1
    rw [if_pos h1] at h
    split
    · rfl
    · rename_i h2; rw [if_neg h2] at h; exact absurd rfl h
  · rfl
theorem thr_nil {w : World} {l : List Rg} {t : Value} {wr : World} (ho : wr.ownsRow w.heap.size 44 3 t l.length (rcl l)) (hb : Below w.heap.size w wr) : Thr w l [] [] t (.slice none 0 0) (.slice none 0 0) wr :=
  ⟨ho, World.ownsRow_nil _ _ _ _, World.ownsRow_nil _ _ _ _, by simp [Value.ownBlock], by simp [Value.ownBlock], by simp [Value.ownBlock], hb⟩
theorem Thr.heap {w wr : World} {L : List Rg} {P : List Rc} {J : List Va.Rj} {t v u : Value} (h : Thr w L P J t v u wr) : w.heap.size ≤ wr.heap.size := h.ch.size
set_option maxRecDepth 100000 in
set_option maxHeartbeats 16000000 in
theorem refFilter_any (A B : Option Addr) (n c m d : Nat) (l : List Rg) (D : List Rc) (w : World) (hl : Can l) (hA : RgR w A l) (hn : l.length = n) (h0 : A = none → n = 0) (hB : Va.RecR w B D) (hm : D.length = m) (h6 : n ≤ 500000) (h7 : m ≤ 100000) (hc : n ≤ c) (hcm : c ≤ maxLen) (hd : m ≤ d) (hdm : d ≤ maxLen) :
    Calls Try.prog 22 #[.slice A n c, .slice B m d] w (RFOut w (nowL l D m) (Va.pasN D (fltE l D) m) (Va.rejD D (fltE l D) m)) := by
  obtain ⟨g0, hg0, gz0, gz1, gz2⟩ := info_parts rangeInfo
  obtain ⟨i0, hi0, hz0, hz1, hz2⟩ := info_parts Va.recInfo
  obtain ⟨k0, hk0, hy0, hy1, hy2⟩ := info_parts Va.rejInfo
  have HCAN := Lib.hid (fun k => nowL_can (D := D) hl k)
  have HB := Lib.hid hB; have HN := Lib.hid hn; have HM := Lib.hid hm; have HA0 := Lib.hid h0
  have hb0 : Below w.heap.size w (w.alloc (.cells #[] 44)) := (Below.refl _ w).alloc (Nat.le_refl _) _
  have HB0 := Lib.hid hb0
  have HOL := Lib.hid (own_lit3 w 44)
  have HSR : Hid (∀ ad, A = some ad → ∀ j u, (rcl l)[j]? = some u → (w.alloc (.cells #[] 44)).cell? (ad.add j) = some u) := Lib.hid (fun ad hA1 j u hj => by
    obtain ⟨a', ha', hsrc⟩ := rg_addr hA (fun h => by have := h0 h; rw [this] at hn; exact List.eq_nil_of_length_eq_zero hn) (by rw [hA1]; simp)
    obtain rfl : ad = a' := by rw [hA1] at ha'; injection ha'
    have := hsrc j u hj
    exact (hb0.cell (cell_block_lt this)).trans this)
  unfold maxLen at hcm hdm
  obtain ⟨E, hE⟩ : ∃ E, fltE l D = E := ⟨_, rfl⟩
  have HEE : Hid (∀ k, E k = rfs (nowL l D k) (D.getD k Va.rc0).s0 (D.getD k Va.rc0).s1) := Lib.hid (fun k => by rw [← hE]; rfl)
  have HNY : Hid (∀ k, E k = 0 → nowL l D (k + 1) = adL (D.getD k Va.rc0).s0 (D.getD k Va.rc0).s1 (nowL l D k)) := Lib.hid (fun k h => nowL_yes (by rw [hE]; exact h))
  have HNN : Hid (∀ k, E k ≠ 0 → nowL l D (k + 1) = nowL l D k) := Lib.hid (fun k h => nowL_no (by rw [hE]; exact h))
  rw [hE]
  clear hA hn hB hm hl hE h0 hb0
  go_enter Try.func22, Try.ntmps22
  go_wp2_with (at_builtin; refine wpList_append_any rfl (.tmp 15) (.tmp 16) 22 rfl w.heap.size 44 g0 _ 3 24 Try.underlying22 hg0 gz0 gz1 gz2 rfl (by decide) _ 0 [] rfl HOL.out A n c (rcl l) rfl (by rw [rcl_len, HN.out]) HA0.out HSR.out (rcl_one _) (by unfold maxLen; omega) (by omega) (by simp) ?_; intro t1 w1 q1 q2; have HT1 : Hid (Thr w l [] [] t1 (.slice none 0 0) (.slice none 0 0) w1) := Lib.hid (thr_nil (by rw [HN.out]; simpa using q1) (HB0.out.grown q2 (by simp) (fun k hk => (World.ownsRow.lt HOL.out k hk).1))); clear q1 q2)
  go_loopw [7, 8, 9, 10] (fun t v u iv wr => ∃ k : Nat, iv = .int .i64 k ∧ k ≤ m ∧ Hid (Thr w (nowL l D k) (Va.pasN D E k) (Va.rejD D E k) t v u wr)) (fun _ _ _ iv _ => m - (intOf iv).toNat)
  case atStart => exact ⟨0, rfl, by omega, HT1⟩
  case round =>
    obtain ⟨k, rfl, hk, HT⟩ := hrel
    by_cases hlt : k < m
    · have hkl : k < D.length := by rw [HM.out]; exact hlt
      have hlt' : (k : Int) < (m : Int) := by omega
      have HKP : Hid ((Va.pasN D E k).length ≤ k) := Lib.hid Va.pas_len
      have HKJ : Hid ((Va.rejD D E k).length ≤ k) := Lib.hid rejD_l
      have hbw : Below w.heap.size w wr := HT.out.ch
      obtain ⟨bk, off, rfl, hbl, hcs⟩ := (HB.out.below hbw) k hkl
      obtain ⟨hcan, hcl⟩ := HCAN.out k
      have HEK := Lib.hid (HEE.out k)
      have HYK := Lib.hid (HNY.out k); have HNK := Lib.hid (HNN.out k)
      obtain ⟨NK, hNK⟩ : ∃ NK, nowL l D k = NK := ⟨_, rfl⟩
      have HNKE := Lib.hid hNK
      rw [hNK] at HEK HYK HNK hcan hcl HT
      obtain ⟨q, hq⟩ : ∃ q, NK.length = q := ⟨_, rfl⟩
      rw [hq] at hcl
      obtain ⟨A1, cq, rfl, hc1, hm1, hR1, -⟩ := rg_own0 (by have := HT.out.ot; rw [hq] at this; exact this) hq
      obtain ⟨⟨s0, s1, s2, sa, sb, s5, s6, s7, s8, b9, s10, b11⟩, hp⟩ : ∃ r, D.getD k Va.rc0 = r := ⟨_, rfl⟩
      have HP := Lib.hid hp
      rw [hp] at hcs HEK HYK
      obtain ⟨e0, e1, e2, e3, e4, e5, e6, e7, e8, e9, e10, e11⟩ := hcs.all
      simp only at e0 e1 e2 e3 e4 e5 e6 e7 e8 e9 e10 e11 HEK HYK
      have HBY : Hid (RcB (wr.alloc (.cells #[.int .i64 s0, .int .i64 s1, .int .i64 s2, .string sa, .string sb, .int .i64 s5, .int .i64 s6, .int .i64 s7, .int .i64 s8, .bool b9, .int .i64 s10, .bool b11] 40)) wr.heap.size ⟨s0, s1, s2, sa, sb, s5, s6, s7, s8, b9, s10, b11⟩) := Lib.hid (heap_alloc_new wr _)
      have HTY := Lib.hid (HT.out.alloc (.cells #[.int .i64 s0, .int .i64 s1, .int .i64 s2, .string sa, .string sb, .int .i64 s5, .int .i64 s6, .int .i64 s7, .int .i64 s8, .bool b9, .int .i64 s10, .bool b11] 40))
      have HRY := Lib.hid (hR1.below (below_lit3 wr (.cells #[.int .i64 s0, .int .i64 s1, .int .i64 s2, .string sa, .string sb, .int .i64 s5, .int .i64 s6, .int .i64 s7, .int .i64 s8, .bool b9, .int .i64 s10, .bool b11] 40)))
      obtain ⟨R, hR⟩ : ∃ R, wr.heap.size = R := ⟨_, rfl⟩
      obtain ⟨Wy, hWy⟩ : ∃ W, wr.alloc (.cells #[.int .i64 s0, .int .i64 s1, .int .i64 s2, .string sa, .string sb, .int .i64 s5, .int .i64 s6, .int .i64 s7, .int .i64 s8, .bool b9, .int .i64 s10, .bool b11] 40) = W := ⟨_, rfl⟩
      rw [hWy] at HBY HTY HRY
      rw [hR] at HBY
      have HBL : Hid (R < Wy.heap.size) := Lib.hid (by rw [← hWy, ← hR]; simp)
      obtain ⟨c0, c1, c2, c3, c4, c5, c6, c7, c8, c9, c10, c11⟩ := HBY.out.cells
      simp only at c0 c1 c2 c3 c4 c5 c6 c7 c8 c9 c10 c11
      have hq1 : q ≤ 1000000 := by have := HN.out; omega
      by_cases hx0 : E k = 0
      · have HAD := Lib.hid (refAdd_yes A1 q cq NK s0 s1 Wy hcan HRY.out hq hq1 hc1 hm1 (by rw [← HEK.out]; exact hx0))
        have HYE := Lib.hid (HYK.out hx0); have HXE := Lib.hid hx0
        clear hkl hbw hcs hp hx0 hcan hcl hc1 hm1 hR1 hNK hq hlt
        go_wp2_with (first
          | (go_at_call 19; (with_reducible refine HAD.out.mono ?_); rintro e w1 ⟨t2, rfl, ho1, hb1⟩; have HX1 := Lib.hid (HBY.out.below hb1 HBL.out); have HT1 := Lib.hid (HTY.out.newT hb1 ho1); clear e0 e1 e2 e3 e4 e5 e6 e7 e8 e9 e10 e11 c0 c1 c2 c3 c4 c5 c6 c7 c8 c9 c10 c11; obtain ⟨c0, c1, c2, c3, c4, c5, c6, c7, c8, c9, c10, c11⟩ := HX1.out.cells; simp only at c0 c1 c2 c3 c4 c5 c6 c7 c8 c9 c10 c11; clear ho1 hb1)
          | (at_builtin; refine wpList_append_own_at _ rfl (.tmp 39) (.tmp 41) 32 rfl w.heap.size 40 i0 _ 12 112 Try.underlying32 hi0 hz0 hz1 hz2 rfl (by decide) _ _ (Va.recl (Va.pasN D E k)) rfl (HT1.out.alloc _).ov ⟨w1.heap.size, 0, none⟩ 1 1 (Va.recl [D.getD k Va.rc0]) rfl (by rw [Va.recl_len]; rfl) (by rw [HP.out]; exact Va.Blk.srcR (r := ⟨s0, s1, s2, sa, sb, s5, s6, s7, s8, b9, s10, b11⟩) (Va.Blk.new w1 40 #[.int .i64 s0, .int .i64 s1, .int .i64 s2, .string sa, .string sb, .int .i64 s5, .int .i64 s6, .int .i64 s7, .int .i64 s8, .bool b9, .int .i64 s10, .bool b11])) (Va.recl_one _) (by have := HKP.out; unfold maxLen; omega) (by have := HKP.out; omega) ((HT1.out.alloc _).heap) ?_; intro v4 w4 q1 q2 _ q3; have HT4 := Lib.hid ((HT1.out.alloc _).appV q1 q2 q3); clear q1 q2 q3))
        go_roundw
        case rel => exact ⟨k + 1, by go_num, by omega, Lib.hid (by rw [HYE.out, Va.pas_yes HXE.out, rejD_y HXE.out]; exact HT4.out)⟩
        case measure => simp [intOf]; omega
      · have HAD := Lib.hid (refAdd_no A1 q cq NK s0 s1 Wy hcan HRY.out hq hc1 hm1 (by rw [← HEK.out]; exact hx0))
        have HYE := Lib.hid ((HNK.out hx0).trans rfl); have HXE := Lib.hid hx0
        have HEV : Hid (E k = if idB s0 s1 = true then 13 else 6) := Lib.hid (by rw [HEK.out]; exact rfs_why (by rw [← HEK.out]; exact hx0))
        obtain ⟨bb, hbb⟩ : ∃ bb, idB s0 s1 = bb := ⟨_, rfl⟩
        have HID := Lib.hid (refIdent_is hbb)
        rw [hbb] at HEV
        clear hkl hbw hcs hp hx0 hcan hcl hc1 hm1 hR1 hNK hq hlt hbb
        cases bb
        all_goals simp only [Bool.false_eq_true, if_true, if_false] at HEV
        · go_wp2_with (first
            | (go_at_call 19; (with_reducible refine HAD.out.mono ?_); rintro e w1 ⟨rfl, rfl⟩)
            | (go_at_call 29; (with_reducible refine (HID.out _).mono ?_); rintro e w2 ⟨rfl, rfl⟩)
            | (at_builtin; refine wpList_append_own_at _ rfl (.tmp 49) (.tmp 57) 33 rfl w.heap.size 57 k0 _ 4 32 Try.underlying33 hk0 hy0 hy1 hy2 rfl (by decide) _ _ (Va.jcl (Va.rejD D E k)) rfl (HTY.out.alloc _).ou ⟨Wy.heap.size, 0, none⟩ 1 1 (Va.jcl [(s0, s1, (k : Int), 6)]) rfl (by rw [Va.jcl_len]; rfl) (Va.Blk.srcJ (r := (s0, s1, (k : Int), 6)) (Va.Blk.new Wy 57 #[.int .i64 s0, .int .i64 s1, .int .i64 k, .int .i64 6])) (Va.jcl_one _) (by have := HKJ.out; unfold maxLen; omega) (by have := HKJ.out; omega) ((HTY.out.alloc _).heap) ?_; intro v4 w4 q1 q2 _ q3; have HT4 := Lib.hid ((HTY.out.alloc _).appU (r := (s0, s1, (k : Int), 6)) q1 q2 q3); clear q1 q2 q3))
          go_roundw
          case rel => exact ⟨k + 1, by go_num, by omega, Lib.hid (by rw [HYE.out, Va.pas_no HXE.out, rejD_n HXE.out HP.out, HEV.out]; exact HT4.out)⟩
          case measure => simp [intOf]; omega
        · go_wp2_with (first
            | (go_at_call 19; (with_reducible refine HAD.out.mono ?_); rintro e w1 ⟨rfl, rfl⟩)
            | (go_at_call 29; (with_reducible refine (HID.out _).mono ?_); rintro e w2 ⟨rfl, rfl⟩)
            | (at_builtin; refine wpList_append_own_at _ rfl (.tmp 49) (.tmp 57) 33 rfl w.heap.size 57 k0 _ 4 32 Try.underlying33 hk0 hy0 hy1 hy2 rfl (by decide) _ _ (Va.jcl (Va.rejD D E k)) rfl (HTY.out.alloc _).ou ⟨Wy.heap.size, 0, none⟩ 1 1 (Va.jcl [(s0, s1, (k : Int), 13)]) rfl (by rw [Va.jcl_len]; rfl) (Va.Blk.srcJ (r := (s0, s1, (k : Int), 13)) (Va.Blk.new Wy 57 #[.int .i64 s0, .int .i64 s1, .int .i64 k, .int .i64 13])) (Va.jcl_one _) (by have := HKJ.out; unfold maxLen; omega) (by have := HKJ.out; omega) ((HTY.out.alloc _).heap) ?_; intro v4 w4 q1 q2 _ q3; have HT4 := Lib.hid ((HTY.out.alloc _).appU (r := (s0, s1, (k : Int), 13)) q1 q2 q3); clear q1 q2 q3))
          go_roundw
          case rel => exact ⟨k + 1, by go_num, by omega, Lib.hid (by rw [HYE.out, Va.pas_no HXE.out, rejD_n HXE.out HP.out, HEV.out]; exact HT4.out)⟩
          case measure => simp [intOf]; omega
    · obtain rfl : k = m := by omega
      go_wp2_with fail
      go_ret3
      exact ⟨_, _, _, rfl, HT.out⟩
end Go.Proofs.Ytgobbeommjjlfaa