/- Walk: write. -/
import Derived.Test.YtokdfdinnaghmaaDoorTxY
import Derived.Test.YtokdfdinnaghmaaDoorTxRd
import Derived.Test.YtokdfdinnaghmaaDoorTxNo
import Derived.Test.YtokdfdinnaghmaaDoorTxLp
import Derived.Test.YtokdfdinnaghmaaDoorTxWl
import Derived.Test.YtokdfdinnaghmaaDoorTxAp
import Derived.Test.YtokdfdinnaghmaaDoorShelf
import Derived.Lib.ItoaMem
import Derived.Lib.AppendIntMem
import Derived.Deep.Cut
import Derived.Deep.CutRange
import Derived.BigRegion
import Derived.Lib.SmallJoins
namespace Go.Proofs.YtokdfdinnaghmaaDoor.Tx
open Go Go.Lib Go.RowKit Go.Proofs.YtokdfdinnaghmaaDoor

abbrev Tab (w : World) : Prop := Lib.TabIs Tryd.prog w "internal/strconv.uint64pow10" .u64 Lib.pow10Tab
theorem Tab.below {w w' : World} (h : Tab w) (hb : Below w.heap.size w w') : Tab w' :=
  Go.Joins.tab_stays (g := 1) (by kernel_rfl) h hb (Nat.le_refl _)
theorem itoa_any (n : Nat) (w : World) (h : n ≤ 9223372036854775807) (ht : Tab w) : Calls Tryd.prog 33 #[.int .i64 n] w fun e w' => e = .returned (.string (S (decDigits n))) ∧ Below w.heap.size w w' :=
  (Tryd.strconv_Itoa n (by omega) (by omega) w ht).mono fun e w' ⟨he, k, os, hw⟩ => ⟨by rw [he, itoa_nonneg]; rfl, by rw [hw]; exact Lib.below_grow _ _ (Nat.le_refl _) _ _⟩
theorem own_below {w w' : World} {base : Nat} {e : TypeId} {size : Nat} {v : Value} {n : Nat} {xs : List Value} (h : w.ownsRow base e size v n xs) (hb : Below w.heap.size w w') : w'.ownsRow base e size v n xs := by
  refine ⟨h.1, ?_⟩
  rcases h.2 with h2 | ⟨g, cap, cur, h2, h3, h4, h5⟩
  · exact .inl h2
  · exact .inr ⟨g, cap, cur, h2, h3, by rw [hb.block g (Array.getElem?_eq_some_iff.1 h4).1]; exact h4, h5⟩
/-- A list of texts of the call. -/
def ypRow (B : Nat) (l : List ByteArray) : YP := ⟨fun v w => w.ownsRow B 9 1 v l.length (l.map Value.string), fun _ _ _ h hb => own_below h hb⟩
def ypFull (B : Nat) (l : List ByteArray) : YP := ⟨fun v w => ∃ g, v = .slice (some ⟨g, 0, none⟩) l.length l.length ∧ w.ownsRow B 9 1 v l.length (l.map Value.string), fun _ _ _ ⟨g, h, k⟩ hb => ⟨g, h, own_below k hb⟩⟩
theorem own_lit3 (w : World) {B : Nat} (hB : B ≤ w.heap.size) (l : List ByteArray) (h : l.length = 3) : (w.alloc (.cells (l.map Value.string).toArray 9)).ownsRow B 9 1 (.slice (some ⟨w.heap.size, 0, none⟩) 3 3) l.length (l.map Value.string) := by
  refine ⟨by simp, .inr ⟨w.heap.size, 3, (l.map Value.string).toArray, by rw [h], hB, new_at w _, by omega, by decide, by simp [h], ?_⟩⟩
  exact List.take_of_length_le (by simp [h])
theorem own_lit7 (w : World) {B : Nat} (hB : B ≤ w.heap.size) (l : List ByteArray) (h : l.length = 7) : (w.alloc (.cells (l.map Value.string).toArray 9)).ownsRow B 9 1 (.slice (some ⟨w.heap.size, 0, none⟩) 7 7) l.length (l.map Value.string) := by
  refine ⟨by simp, .inr ⟨w.heap.size, 7, (l.map Value.string).toArray, by rw [h], hB, new_at w _, by omega, by decide, by simp [h], ?_⟩⟩
  exact List.take_of_length_le (by simp [h])
theorem itoa_grow {n : Nat} {w : World} (h : n < 1000000000000000) (ht : Tab w) :
    Calls Tryd.prog 33 #[.int .i64 n] w fun e w' => ∃ v, e = .returned v ∧ (YP.val (.string (S (decDigits n)))).holds v w' ∧ Below w.heap.size w w' := (itoa_any n w (by omega) ht).mono fun e w' hh => ⟨_, hh.1, rfl, hh.2⟩
def wrT (b B kd so se st un : Nat) (sa bw : ByteArray) : List YP := [.val (.pointer (some ⟨b, 2, none⟩)), .val (.int .i64 (kd : Nat)), .val (.int .i64 ((kd : Int) - 1)), .val (.pointer (some ⟨b, 2, none⟩)), .val (.int .i64 (kd : Nat)), .val (.string (S (letK kd))), .val (.pointer (some ⟨b, 0, none⟩)), .val (.int .i64 (so : Nat)), .val (.string (S (decDigits so))), .val (.pointer (some ⟨b, 1, none⟩)), .val (.int .i64 (se : Nat)), .val (.string (S (decDigits se))), .val (.pointer (some ⟨b, 3, none⟩)), .val (.string sa), .val (.string bw), .val (.pointer (some ⟨b, 5, none⟩)), .val (.int .i64 (st : Nat)), .val (.string (S (decDigits st))), .val (.pointer (some ⟨b, 6, none⟩)), .val (.int .i64 (un : Nat)), .val (.string (S (decDigits un))), ypFull B [S (letK kd), S (decDigits so), S (decDigits se), sa, bw, S (decDigits st), S (decDigits un)]]
def prT (b B0 B g kd so se st un cl pt : Nat) (sa bw : ByteArray) : List YP := [.val (.slice (some ⟨g, 0, none⟩) 7 7), .val (.pointer (some ⟨b, 7, none⟩)), .val (.int .i64 (cl : Nat)), .val (.string (S (decDigits cl))), .val (.pointer (some ⟨b, 8, none⟩)), .val (.int .i64 (pt : Nat)), .val (.string (S (decDigits pt))), ypFull B [S wPart, S (decDigits cl), S (decDigits pt)], ypRow B0 ([S (letK kd), S (decDigits so), S (decDigits se), sa, bw, S (decDigits st), S (decDigits un)] ++ [S wPart, S (decDigits cl), S (decDigits pt)])]
theorem run_app {P : Program} {a : Act} {o : Oper} {s x : Operand} {t : TypeId} {w w' : World} {v v0 x0 : Value} (ho : o.op = .call { callee := .builtin .append, args := #[s, x], argTypes := #[t, t] }) (hs : a.eval s = v0) (hx : a.eval x = x0)
    (hr : (Builtin.append_ #[t, t] o.type #[v0, x0]).run P w = .ok v w') : (execOp a.eval o).run P w = .ok (.value v) w' := by
  unfold execOp
  simp only [ho, resolve, invoke, builtin, Sem.run_bind, Sem.run_pure, Result.andThen_ok, List.map_toArray, List.map_cons, List.map_nil, hs, hx, hr]
theorem join_is (c : UInt8) : ∀ l : List Wd, Lib.join l [c] = joinW c l
  | [] => rfl
  | [w] => by rw [Lib.join_one]; rfl
  | w :: v :: t => by
    rw [Lib.join_cons, joinW, ← join_is c (v :: t), Lib.join_cons]
    simp [Lib.joinTail]
theorem joinW_len (c : UInt8) : ∀ (l : List Wd) (k : Nat), (∀ w ∈ l, w.length ≤ k) → (joinW c l).length ≤ l.length * (k + 1)
  | [], k, _ => by simp [joinW]
  | [w], k, h => by
    have := h w (List.mem_cons_self ..)
    simp [joinW]; omega
  | w :: v :: t, k, h => by
    have h1 := h w (List.mem_cons_self ..)
    have h2 := joinW_len c (v :: t) k (fun x hx => h x (List.mem_cons_of_mem _ hx))
    simp only [joinW, List.length_append, List.length_cons] at h2 ⊢
    rw [Nat.add_mul, Nat.one_mul]
    omega
theorem two_new (w : World) (a b : Value) (t : TypeId) : ∀ j u, [a, b][j]? = some u → (w.alloc (.cells #[a, b] t)).cell? ((⟨w.heap.size, 0, none⟩ : Addr).add j) = some u := by
  intro j u hj
  match j, hj with
  | 0, hj => simp at hj; subst hj; simp [Addr.add]
  | 1, hj => simp at hj; subst hj; simp [Addr.add]
  | j + 2, hj => simp at hj
theorem two_one (a b : ByteArray) : ∀ u ∈ [Value.string a, .string b], u.oneCell' = true := fun u hu => by
  simp at hu; rcases hu with rfl | rfl <;> rfl
theorem join_end {w : World} {B g c n : Nat} {l : List ByteArray} {ws : List Wd} (ho : w.ownsRow B 9 1 (.slice (some ⟨g, 0, none⟩) (n : Nat) c) n (l.map Value.string)) (hln : l.length = n) (hw : byt l = ws) (h20 : ws.length ≤ 20) (h100 : ∀ x ∈ ws, x.length ≤ 100) :
    Calls Tryd.prog 34 #[.slice (some ⟨g, 0, none⟩) (n : Nat) c, .string ⟨#[32]⟩] w fun e w' => e = .returned (.string (S (joinW 32 ws))) ∧ Below w.heap.size w w' := by
  subst hln
  have hbl := byt_len l
  rw [hw] at hbl
  have hcap : l.length ≤ c ∧ (0 < l.length → g < w.heap.size) := by
    rcases ho.2 with ⟨h2, _⟩ | ⟨g', cap', cur, hv, _, hh, h5, _⟩
    · cases h2
    · cases hv; exact ⟨h5, fun _ => (Array.getElem?_eq_some_iff.1 hh).1⟩
  have hg : g < w.heap.size := by
    rcases ho.2 with ⟨h2, _⟩ | ⟨g', cap', cur, hv, _, hh, _⟩
    · cases h2
    · cases hv; exact (Array.getElem?_eq_some_iff.1 hh).1
  have hl := joinW_len 32 ws 100 h100
  have e : Lib.join (l.map (·.data.toList)) (⟨#[32]⟩ : ByteArray).data.toList = joinW 32 ws := by
    rw [← hw]; exact join_is 32 (byt l)
  have h := Tryd.strings_Join g 0 c l ⟨#[32]⟩ w (fun j x hx => by
    have h3 := ho.cells (g := g) rfl j (.string x) (by rw [List.getElem?_map, hx]; rfl)
    have ha : ((⟨g, 0, none⟩ : Addr).add j) = ⟨g, 0 + j, none⟩ := by unfold Addr.add; split <;> simp_all
    rw [← ha]; exact h3) hg (by omega) hcap.1 (by rw [e]; omega)
  rw [e] at h
  exact h
theorem words_len {n : Ln} (h : LnOk n) : (∀ x ∈ wordsL n, x.length ≤ 100) ∧ (wordsL n).length ≤ 20 := by
  have d : ∀ {u : Nat}, u < 1000000000000000 → (decDigits u).length ≤ 100 := fun hu => Nat.le_trans (dec_len (k := 14) (by omega)) (by decide)
  have hlet : (letK n.kd).length ≤ 100 := by
    rcases (by have := h.kd0; have := h.kd1; omega : n.kd = 1 ∨ n.kd = 2 ∨ n.kd = 3 ∨ n.kd = 4) with e | e | e | e <;> rw [e] <;> decide
  have hbw : (bWord n.b).length ≤ 100 := by unfold bWord; split; decide; exact h.bl
  have h1 := h.al
  have hso := d h.so; have hse := d h.se; have hst := d h.st; have hun := d h.un; have hcl := d h.cl; have hpt := d h.pt; have htr := d h.tr
  have c1 : wPart.length ≤ 100 := by decide
  have c2 : wLast.length ≤ 100 := by decide
  have c3 : wIn.length ≤ 100 := by decide
  have c4 : wOut.length ≤ 100 := by decide
  unfold wordsL partWs trunkWs
  by_cases hp : n.pt = 0 <;> by_cases ht : n.tr = 0 <;> cases n.la <;> cases n.inb <;> simp [*]
theorem byt_app (a b : List ByteArray) : byt (a ++ b) = byt a ++ byt b := by simp [byt]
theorem S_part : (⟨#[112, 97, 114, 116]⟩ : ByteArray) = S wPart := rfl
theorem one_all (l : List ByteArray) : ∀ u ∈ l.map Value.string, u.oneCell' = true := fun u hu => by
  obtain ⟨x, -, rfl⟩ := List.mem_map.1 hu
  rfl
set_option maxRecDepth 100000 in
set_option maxHeartbeats 8000000 in
theorem write_any {r : Rc} {n : Ln} (hl : Lr n r) (ho : LnOk n) (w : World) (ht : Tab w) :
    Calls Tryd.prog 21 #[.agg r.cells] w fun e w' => e = .returned (.string (S (joinW 32 (wordsL n)))) ∧ Below w.heap.size w w' := by
  have hB0 := hl.la
  have hB1 := hl.lb
  obtain ⟨kd, so, se, na, nb, st, un, cl, pt, la, tr, inb⟩ := n
  obtain ⟨s0, s1, s2, sa, sb, s5, s6, s7, s8, b9, s10, b11⟩ := r
  obtain ⟨k0, k1, k2, k3, k4, k5, k6, k7, k8, k9, k10, k11, -, -⟩ := hl
  simp only at k0 k1 k2 k3 k4 k5 k6 k7 k8 k9 k10 k11 hB0 hB1
  subst k0 k1 k2 k3 k4 k5 k6 k7 k8 k9 k10 k11
  have HN := Lib.hid ho
  have HSA := Lib.hid hB0; have HSB := Lib.hid hB1
  clear ho hB0 hB1
  obtain ⟨b, hb⟩ : ∃ b, w.heap.size = b := ⟨_, rfl⟩
  obtain ⟨L, hL⟩ : ∃ L, w.alloc (.cells (Rc.cells ⟨so, se, kd, sa, sb, st, un, cl, pt, b9, tr, b11⟩) 23) = L := ⟨_, rfl⟩
  have hbl : RcB L b ⟨so, se, kd, sa, sb, st, un, cl, pt, b9, tr, b11⟩ := by rw [← hL, ← hb]; exact new_at w _
  have HB := Lib.hid (show Below w.heap.size w L from hL ▸ (Below.refl _ w).alloc (Nat.le_refl _) _)
  have HT := Lib.hid (ht.below HB.out)
  have HBL := Lib.hid hbl
  have HBS : Hid (w.heap.size = b) := Lib.hid hb
  have e4 := hbl.cells.2.2.2.2.1
  clear hbl ht
  simp only [Rc.cells] at hL ⊢
  go_enter Tryd.func21, Tryd.ntmps21
  go_upto_if 9 with fail
  go_cut [3] from 8 (fun s3 wx => L = wx ∧ ∃ bw : ByteArray, s3 = .string bw ∧ bw.data.toList = bWord sb.data.toList ∧ bw.size ≤ maxLen)
  case first =>
    go_wp2_with fail
    · rename_i he
      go_meet
      have e0 : sb.data.toList = [] := by
        rw [ByteArray.toList_eq] at he
        exact List.isEmpty_iff.1 he
      trace_state
      exact ⟨rfl, ⟨#[45]⟩, by simp, by rw [e0]; rfl, by decide⟩
    · rename_i he
      go_meet
      have e0 : sb.data.toList ≠ [] := by
        rw [ByteArray.toList_eq] at he
        exact fun e => by rw [e] at he; cases he
      exact ⟨rfl, sb, by simp, by unfold bWord; rw [if_neg e0], HSB.out⟩
  case rest =>
    obtain ⟨rfl, bw, rfl, hbw, hbz⟩ := hcut
    have HBW := Lib.hid hbw; have HBZ := Lib.hid hbz
    clear hbw hbz e4
    have hb2 : ∀ W, Below L.heap.size L W → RcB W b ⟨so, se, kd, sa, sb, st, un, cl, pt, b9, tr, b11⟩ := fun W h => HBL.out.below h (RcB.lt HBL.out)
    have HC := Lib.hid hb2
    have HTT : Hid (∀ W, Below L.heap.size L W → Tab W) := Lib.hid fun W h => HT.out.below h
    clear hb2
    go_upto_region 4 with fail
    go_cut [4] from 5 (fun s4 wx => Below L.heap.size L wx ∧ ∃ g, s4 = .slice (some ⟨g, 0, none⟩) 7 7 ∧ wx.ownsRow L.heap.size 9 1 s4 7 ([S (letK kd), S (decDigits so), S (decDigits se), sa, bw, S (decDigits st), S (decDigits un)].map Value.string))
    case first =>
      rename_i hJ hK
      refine wp_region_stable (I := fun w' => Below L.heap.size L w') (Y := fun i v w' => ((wrT b L.heap.size kd so se st un sa bw).getD i .any).holds v w') (n := 22) (ol := _) (by kernel_rfl) (fit_of (ol := _) (by kernel_rfl) rfl rfl) (show 63 ≤ 1000000 by decide) ?qI ?qS ?qE
      case qI => exact (Below.refl _ _).drew
      case qS =>
        intro i o hi ho listed a wx hA hd
        have hI := hA.inv
        have t1 : a.tmps[1]?.getD undef = .pointer (some ⟨b, 0, none⟩) := by rw [← Array.getD_eq_getD_getElem?]; exact hA.same 1 (by kernel_rfl)
        have t3 : a.tmps[3]?.getD undef = .string bw := by rw [← Array.getD_eq_getD_getElem?]; exact hA.same 3 (by kernel_rfl)
        obtain ⟨k0, k1, k2, k3, k4, k5, k6, k7, k8, k9, k10, k11⟩ := (HC.out wx hI).cells
        have hcs : i = 0 ∨ i = 1 ∨ i = 2 ∨ i = 3 ∨ i = 4 ∨ i = 5 ∨ i = 6 ∨ i = 7 ∨ i = 8 ∨ i = 9 ∨ i = 10 ∨ i = 11 ∨ i = 12 ∨ i = 13 ∨ i = 14 ∨ i = 15 ∨ i = 16 ∨ i = 17 ∨ i = 18 ∨ i = 19 ∨ i = 20 ∨ i = 21 := by omega
        rcases hcs with rfl | rfl | rfl | rfl | rfl | rfl | rfl | rfl | rfl | rfl | rfl | rfl | rfl | rfl | rfl | rfl | rfl | rfl | rfl | rfl | rfl | rfl
        · obtain rfl := Option.some.inj ho
          exact step_val (v := .pointer (some ⟨b, 2, none⟩)) (by simp [go_sem, t1]) hI rfl
        · obtain rfl := Option.some.inj ho
          have d0 : a.tmps[10]?.getD undef = .pointer (some ⟨b, 2, none⟩) := by rw [← Array.getD_eq_getD_getElem?]; exact hd { on := 0, ground := .data } (by simp) rfl
          exact step_val (v := .int .i64 (kd : Nat)) (by simp [go_sem, d0, k2]) hI rfl
        · obtain rfl := Option.some.inj ho
          have d1 : a.tmps[11]?.getD undef = .int .i64 (kd : Nat) := by rw [← Array.getD_eq_getD_getElem?]; exact hd { on := 1, ground := .data } (by simp) rfl
          exact step_val (v := .int .i64 ((kd : Int) - 1)) (by have h0 := HN.out.kd0; have h1 := HN.out.kd1; simp only at h0 h1; have hw : IntKind.i64.wrap ((kd : Int) - 1) = (kd : Int) - 1 := (by rw [IntKind.wrap_i64]; omega); simp [go_sem, d1, hw]) hI rfl
        · obtain rfl := Option.some.inj ho
          exact step_val (v := .pointer (some ⟨b, 2, none⟩)) (by simp [go_sem, t1]) hI rfl
        · obtain rfl := Option.some.inj ho
          have d3 : a.tmps[13]?.getD undef = .pointer (some ⟨b, 2, none⟩) := by rw [← Array.getD_eq_getD_getElem?]; exact hd { on := 3, ground := .data } (by simp) rfl
          exact step_val (v := .int .i64 (kd : Nat)) (by simp [go_sem, d3, k2]) hI rfl
        · obtain rfl := Option.some.inj ho
          have d2 : a.tmps[12]?.getD undef = .int .i64 ((kd : Int) - 1) := by rw [← Array.getD_eq_getD_getElem?]; exact hd { on := 2, ground := .data } (by simp) rfl
          have d4 : a.tmps[14]?.getD undef = .int .i64 (kd : Nat) := by rw [← Array.getD_eq_getD_getElem?]; exact hd { on := 4, ground := .data } (by simp) rfl
          exact step_val (v := .string (S (letK kd))) (by obtain rfl | rfl | rfl | rfl : kd = 1 ∨ kd = 2 ∨ kd = 3 ∨ kd = 4 := (by have h0 := HN.out.kd0; have h1 := HN.out.kd1; simp only at h0 h1; omega) <;> simp [go_sem, d2, d4, letK, S] <;> rfl) hI rfl
        · obtain rfl := Option.some.inj ho
          exact step_val (v := .pointer (some ⟨b, 0, none⟩)) (by simp [go_sem, t1]) hI rfl
        · obtain rfl := Option.some.inj ho
          have d6 : a.tmps[16]?.getD undef = .pointer (some ⟨b, 0, none⟩) := by rw [← Array.getD_eq_getD_getElem?]; exact hd { on := 6, ground := .data } (by simp) rfl
          exact step_val (v := .int .i64 (so : Nat)) (by simp [go_sem, d6, k0]) hI rfl
        · obtain rfl := Option.some.inj ho
          have d7 : a.tmps[17]?.getD undef = .int .i64 (so : Nat) := by rw [← Array.getD_eq_getD_getElem?]; exact hd { on := 7, ground := .data } (by simp) rfl
          exact step_call (f := 33) (args := #[.int .i64 (so : Nat)]) (by simp [go_sem, d7]) (yp_call (T := wrT b L.heap.size kd so se st un sa bw) (k := .val (.string (S (decDigits so)))) rfl hI (itoa_grow HN.out.so (HTT.out wx hI)))
        · obtain rfl := Option.some.inj ho
          exact step_val (v := .pointer (some ⟨b, 1, none⟩)) (by simp [go_sem, t1]) hI rfl
        · obtain rfl := Option.some.inj ho
          have d9 : a.tmps[19]?.getD undef = .pointer (some ⟨b, 1, none⟩) := by rw [← Array.getD_eq_getD_getElem?]; exact hd { on := 9, ground := .data } (by simp) rfl
          exact step_val (v := .int .i64 (se : Nat)) (by simp [go_sem, d9, k1]) hI rfl
        · obtain rfl := Option.some.inj ho
          have d10 : a.tmps[20]?.getD undef = .int .i64 (se : Nat) := by rw [← Array.getD_eq_getD_getElem?]; exact hd { on := 10, ground := .data } (by simp) rfl
          exact step_call (f := 33) (args := #[.int .i64 (se : Nat)]) (by simp [go_sem, d10]) (yp_call (T := wrT b L.heap.size kd so se st un sa bw) (k := .val (.string (S (decDigits se)))) rfl hI (itoa_grow HN.out.se (HTT.out wx hI)))
        · obtain rfl := Option.some.inj ho
          exact step_val (v := .pointer (some ⟨b, 3, none⟩)) (by simp [go_sem, t1]) hI rfl
        · obtain rfl := Option.some.inj ho
          have d12 : a.tmps[22]?.getD undef = .pointer (some ⟨b, 3, none⟩) := by rw [← Array.getD_eq_getD_getElem?]; exact hd { on := 12, ground := .data } (by simp) rfl
          exact step_val (v := .string sa) (by simp [go_sem, d12, k3]) hI rfl
        · obtain rfl := Option.some.inj ho
          exact step_val (v := .string bw) (by simp [go_sem, t3]) hI rfl
        · obtain rfl := Option.some.inj ho
          exact step_val (v := .pointer (some ⟨b, 5, none⟩)) (by simp [go_sem, t1]) hI rfl
        · obtain rfl := Option.some.inj ho
          have d15 : a.tmps[25]?.getD undef = .pointer (some ⟨b, 5, none⟩) := by rw [← Array.getD_eq_getD_getElem?]; exact hd { on := 15, ground := .data } (by simp) rfl
          exact step_val (v := .int .i64 (st : Nat)) (by simp [go_sem, d15, k5]) hI rfl
        · obtain rfl := Option.some.inj ho
          have d16 : a.tmps[26]?.getD undef = .int .i64 (st : Nat) := by rw [← Array.getD_eq_getD_getElem?]; exact hd { on := 16, ground := .data } (by simp) rfl
          exact step_call (f := 33) (args := #[.int .i64 (st : Nat)]) (by simp [go_sem, d16]) (yp_call (T := wrT b L.heap.size kd so se st un sa bw) (k := .val (.string (S (decDigits st)))) rfl hI (itoa_grow HN.out.st (HTT.out wx hI)))
        · obtain rfl := Option.some.inj ho
          exact step_val (v := .pointer (some ⟨b, 6, none⟩)) (by simp [go_sem, t1]) hI rfl
        · obtain rfl := Option.some.inj ho
          have d18 : a.tmps[28]?.getD undef = .pointer (some ⟨b, 6, none⟩) := by rw [← Array.getD_eq_getD_getElem?]; exact hd { on := 18, ground := .data } (by simp) rfl
          exact step_val (v := .int .i64 (un : Nat)) (by simp [go_sem, d18, k6]) hI rfl
        · obtain rfl := Option.some.inj ho
          have d19 : a.tmps[29]?.getD undef = .int .i64 (un : Nat) := by rw [← Array.getD_eq_getD_getElem?]; exact hd { on := 19, ground := .data } (by simp) rfl
          exact step_call (f := 33) (args := #[.int .i64 (un : Nat)]) (by simp [go_sem, d19]) (yp_call (T := wrT b L.heap.size kd so se st un sa bw) (k := .val (.string (S (decDigits un)))) rfl hI (itoa_grow HN.out.un (HTT.out wx hI)))
        · obtain rfl := Option.some.inj ho
          have d5 : a.tmps[15]?.getD undef = .string (S (letK kd)) := by rw [← Array.getD_eq_getD_getElem?]; exact hd { on := 5, ground := .data } (by simp) rfl
          have d8 : a.tmps[18]?.getD undef = .string (S (decDigits so)) := by rw [← Array.getD_eq_getD_getElem?]; exact hd { on := 8, ground := .data } (by simp) rfl
          have d11 : a.tmps[21]?.getD undef = .string (S (decDigits se)) := by rw [← Array.getD_eq_getD_getElem?]; exact hd { on := 11, ground := .data } (by simp) rfl
          have d13 : a.tmps[23]?.getD undef = .string sa := by rw [← Array.getD_eq_getD_getElem?]; exact hd { on := 13, ground := .data } (by simp) rfl
          have d14 : a.tmps[24]?.getD undef = .string bw := by rw [← Array.getD_eq_getD_getElem?]; exact hd { on := 14, ground := .data } (by simp) rfl
          have d17 : a.tmps[27]?.getD undef = .string (S (decDigits st)) := by rw [← Array.getD_eq_getD_getElem?]; exact hd { on := 17, ground := .data } (by simp) rfl
          have d20 : a.tmps[30]?.getD undef = .string (S (decDigits un)) := by rw [← Array.getD_eq_getD_getElem?]; exact hd { on := 20, ground := .data } (by simp) rfl
          exact yp_new (T := wrT b L.heap.size kd so se st un sa bw) (k := ypFull L.heap.size [S (letK kd), S (decDigits so), S (decDigits se), sa, bw, S (decDigits st), S (decDigits un)]) (w' := wx.alloc (.cells ([S (letK kd), S (decDigits so), S (decDigits se), sa, bw, S (decDigits st), S (decDigits un)].map Value.string).toArray 9)) (v := .slice (some ⟨wx.heap.size, 0, none⟩) 7 7) rfl (by simp [go_sem, d5, d8, d11, d13, d14, d17, d20]) hI ((Below.refl _ _).alloc (Nat.le_refl _) _) ⟨_, rfl, own_lit7 wx hI.size _ rfl⟩
      case qE =>
        intro listed a wx hA hY
        have hI := hA.inv
        have hs4 : ∃ g, a.eval (.tmp 31) = .slice (some ⟨g, 0, none⟩) 7 7 ∧ wx.ownsRow L.heap.size 9 1 (a.eval (.tmp 31)) 7 ([S (letK kd), S (decDigits so), S (decDigits se), sa, bw, S (decDigits st), S (decDigits un)].map Value.string) := hY 21 (by decide)
        obtain ⟨v31, h31⟩ : ∃ v, a.eval (.tmp 31) = v := ⟨_, rfl⟩
        rw [h31] at hs4
        have p31 : a.tmps[31]?.getD undef = v31 := by rw [← Array.getD_eq_getD_getElem?]; exact h31
        have hdf : a.defers = [] := hA.defers
        have hl : a.tmps.size = 63 := hA.size
        have fs0 := hA.same 0 (by kernel_rfl)
        have fs1 := hA.same 1 (by kernel_rfl)
        have fs2 := hA.same 2 (by kernel_rfl)
        have fs3 := hA.same 3 (by kernel_rfl)
        simp at fs0 fs1 fs2 fs3
        unfold Oper.wp
        have hrun : ∀ o : Oper, o.op = .assign (.tmp 31) → (execOp a.eval o).run Tryd.prog wx = .ok (.value v31) wx := fun o ho => by
          simp [execOp, ho, go_sem, p31]
        rw [hrun _ rfl]
        have HI4 := Lib.hid hI; have HS4 := Lib.hid hs4
        clear hA hY hrun p31 h31 hs4 hI
        obtain ⟨⟨ll⟩, df⟩ := a
        simp only at hdf
        subst hdf
        replace hl : ll.length = 62 + 1 := hl
        obtain ⟨x0, l0, e0, h0⟩ := lit_succ (n := 62) hl
        subst e0
        obtain ⟨x1, l1, e1, h1⟩ := lit_succ (n := 61) h0
        subst e1
        obtain ⟨x2, l2, e2, h2⟩ := lit_succ (n := 60) h1
        subst e2
        obtain ⟨x3, l3, e3, h3⟩ := lit_succ (n := 59) h2
        subst e3
        obtain ⟨x4, l4, e4, h4⟩ := lit_succ (n := 58) h3
        subst e4
        obtain ⟨x5, l5, e5, h5⟩ := lit_succ (n := 57) h4
        subst e5
        obtain ⟨x6, l6, e6, h6⟩ := lit_succ (n := 56) h5
        subst e6
        obtain ⟨x7, l7, e7, h7⟩ := lit_succ (n := 55) h6
        subst e7
        obtain ⟨x8, l8, e8, h8⟩ := lit_succ (n := 54) h7
        subst e8
        obtain ⟨x9, l9, e9, h9⟩ := lit_succ (n := 53) h8
        subst e9
        obtain ⟨x10, l10, e10, h10⟩ := lit_succ (n := 52) h9
        subst e10
        obtain ⟨x11, l11, e11, h11⟩ := lit_succ (n := 51) h10
        subst e11
        obtain ⟨x12, l12, e12, h12⟩ := lit_succ (n := 50) h11
        subst e12
        obtain ⟨x13, l13, e13, h13⟩ := lit_succ (n := 49) h12
        subst e13
        obtain ⟨x14, l14, e14, h14⟩ := lit_succ (n := 48) h13
        subst e14
        obtain ⟨x15, l15, e15, h15⟩ := lit_succ (n := 47) h14
        subst e15
        obtain ⟨x16, l16, e16, h16⟩ := lit_succ (n := 46) h15
        subst e16
        obtain ⟨x17, l17, e17, h17⟩ := lit_succ (n := 45) h16
        subst e17
        obtain ⟨x18, l18, e18, h18⟩ := lit_succ (n := 44) h17
        subst e18
        obtain ⟨x19, l19, e19, h19⟩ := lit_succ (n := 43) h18
        subst e19
        obtain ⟨x20, l20, e20, h20⟩ := lit_succ (n := 42) h19
        subst e20
        obtain ⟨x21, l21, e21, h21⟩ := lit_succ (n := 41) h20
        subst e21
        obtain ⟨x22, l22, e22, h22⟩ := lit_succ (n := 40) h21
        subst e22
        obtain ⟨x23, l23, e23, h23⟩ := lit_succ (n := 39) h22
        subst e23
        obtain ⟨x24, l24, e24, h24⟩ := lit_succ (n := 38) h23
        subst e24
        obtain ⟨x25, l25, e25, h25⟩ := lit_succ (n := 37) h24
        subst e25
        obtain ⟨x26, l26, e26, h26⟩ := lit_succ (n := 36) h25
        subst e26
        obtain ⟨x27, l27, e27, h27⟩ := lit_succ (n := 35) h26
        subst e27
        obtain ⟨x28, l28, e28, h28⟩ := lit_succ (n := 34) h27
        subst e28
        obtain ⟨x29, l29, e29, h29⟩ := lit_succ (n := 33) h28
        subst e29
        obtain ⟨x30, l30, e30, h30⟩ := lit_succ (n := 32) h29
        subst e30
        obtain ⟨x31, l31, e31, h31⟩ := lit_succ (n := 31) h30
        subst e31
        obtain ⟨x32, l32, e32, h32⟩ := lit_succ (n := 30) h31
        subst e32
        obtain ⟨x33, l33, e33, h33⟩ := lit_succ (n := 29) h32
        subst e33
        obtain ⟨x34, l34, e34, h34⟩ := lit_succ (n := 28) h33
        subst e34
        obtain ⟨x35, l35, e35, h35⟩ := lit_succ (n := 27) h34
        subst e35
        obtain ⟨x36, l36, e36, h36⟩ := lit_succ (n := 26) h35
        subst e36
        obtain ⟨x37, l37, e37, h37⟩ := lit_succ (n := 25) h36
        subst e37
        obtain ⟨x38, l38, e38, h38⟩ := lit_succ (n := 24) h37
        subst e38
        obtain ⟨x39, l39, e39, h39⟩ := lit_succ (n := 23) h38
        subst e39
        obtain ⟨x40, l40, e40, h40⟩ := lit_succ (n := 22) h39
        subst e40
        obtain ⟨x41, l41, e41, h41⟩ := lit_succ (n := 21) h40
        subst e41
        obtain ⟨x42, l42, e42, h42⟩ := lit_succ (n := 20) h41
        subst e42
        obtain ⟨x43, l43, e43, h43⟩ := lit_succ (n := 19) h42
        subst e43
        obtain ⟨x44, l44, e44, h44⟩ := lit_succ (n := 18) h43
        subst e44
        obtain ⟨x45, l45, e45, h45⟩ := lit_succ (n := 17) h44
        subst e45
        obtain ⟨x46, l46, e46, h46⟩ := lit_succ (n := 16) h45
        subst e46
        obtain ⟨x47, l47, e47, h47⟩ := lit_succ (n := 15) h46
        subst e47
        obtain ⟨x48, l48, e48, h48⟩ := lit_succ (n := 14) h47
        subst e48
        obtain ⟨x49, l49, e49, h49⟩ := lit_succ (n := 13) h48
        subst e49
        obtain ⟨x50, l50, e50, h50⟩ := lit_succ (n := 12) h49
        subst e50
        obtain ⟨x51, l51, e51, h51⟩ := lit_succ (n := 11) h50
        subst e51
        obtain ⟨x52, l52, e52, h52⟩ := lit_succ (n := 10) h51
        subst e52
        obtain ⟨x53, l53, e53, h53⟩ := lit_succ (n := 9) h52
        subst e53
        obtain ⟨x54, l54, e54, h54⟩ := lit_succ (n := 8) h53
        subst e54
        obtain ⟨x55, l55, e55, h55⟩ := lit_succ (n := 7) h54
        subst e55
        obtain ⟨x56, l56, e56, h56⟩ := lit_succ (n := 6) h55
        subst e56
        obtain ⟨x57, l57, e57, h57⟩ := lit_succ (n := 5) h56
        subst e57
        obtain ⟨x58, l58, e58, h58⟩ := lit_succ (n := 4) h57
        subst e58
        obtain ⟨x59, l59, e59, h59⟩ := lit_succ (n := 3) h58
        subst e59
        obtain ⟨x60, l60, e60, h60⟩ := lit_succ (n := 2) h59
        subst e60
        obtain ⟨x61, l61, e61, h61⟩ := lit_succ (n := 1) h60
        subst e61
        obtain ⟨x62, l62, e62, h62⟩ := lit_succ (n := 0) h61
        subst e62
        obtain rfl := List.length_eq_zero_iff.1 h62
        replace fs0 : x0 = _ := fs0
        subst fs0
        replace fs1 : x1 = _ := fs1
        subst fs1
        replace fs2 : x2 = _ := fs2
        subst fs2
        replace fs3 : x3 = _ := fs3
        subst fs3
        refine hK { tmps := #[_, _, _, _, v31, x5, x6, x7, x8, x9, x10, x11, x12, x13, x14, x15, x16, x17, x18, x19, x20, x21, x22, x23, x24, x25, x26, x27, x28, x29, x30, x31, x32, x33, x34, x35, x36, x37, x38, x39, x40, x41, x42, x43, x44, x45, x46, x47, x48, x49, x50, x51, x52, x53, x54, x55, x56, x57, x58, x59, x60, x61, x62], defers := [] } _ ?_
        go_meet
        case rel => exact ⟨HI4.out, HS4.out⟩
    case rest =>
      obtain ⟨hb4, g4, rfl, ho4⟩ := hcut
      have HB4 := Lib.hid hb4; have HO4 := Lib.hid ho4
      have hbl4 : RcB wc b ⟨so, se, kd, sa, sb, st, un, cl, pt, b9, tr, b11⟩ := HC.out _ hb4
      have e8 := hbl4.cells.2.2.2.2.2.2.2.2.1
      clear hb4 ho4 hbl4
      go_upto_if 34 with fail
      go_cut [4] from 5 (fun s4 wx => Below L.heap.size L wx ∧ ∃ l2 : List ByteArray, l2 = [S (letK kd), S (decDigits so), S (decDigits se), sa, bw, S (decDigits st), S (decDigits un)] ++ (if pt = 0 then [] else [S wPart, S (decDigits cl), S (decDigits pt)] ++ (if b9 = true then [S wLast] else [])) ∧ wx.ownsRow L.heap.size 9 1 s4 l2.length (l2.map Value.string))
      case first =>
        by_cases hp : pt = 0
        · have q0 : ((pt : Int) != 0) = false := by simp [hp]
          have HP := Lib.hid hp
          clear hp
          go_wp2_with fail
          go_meet
          refine ⟨HB4.out, _, rfl, ?_⟩
          rw [if_pos HP.out, List.append_nil]
          exact HO4.out
        · have q0 : ((pt : Int) != 0) = true := by simp [hp]
          have HP := Lib.hid hp
          clear hp
          go_upto_region 6 with fail
          go_cut [4] from 5 (fun s4 wx => Below wc.heap.size wc wx ∧ wx.ownsRow L.heap.size 9 1 s4 10 (([S (letK kd), S (decDigits so), S (decDigits se), sa, bw, S (decDigits st), S (decDigits un)] ++ [S wPart, S (decDigits cl), S (decDigits pt)]).map Value.string))
          case first =>
            rename_i hJ hK
            refine wp_region_stable (I := fun w' => Below wc.heap.size wc w') (Y := fun i v w' => ((prT b L.heap.size wc.heap.size g4 kd so se st un cl pt sa bw).getD i .any).holds v w') (n := 9) (ol := _) (by kernel_rfl) (fit_of (ol := _) (by kernel_rfl) rfl rfl) (show 63 ≤ 1000000 by decide) ?qI ?qS ?qE
            case qI => exact (Below.refl _ _).drew
            case qS =>
              intro i o hi ho listed a wx hA hd
              have hI := hA.inv
              have t1 : a.tmps[1]?.getD undef = .pointer (some ⟨b, 0, none⟩) := by rw [← Array.getD_eq_getD_getElem?]; exact hA.same 1 (by kernel_rfl)
              have t4 : a.tmps[4]?.getD undef = .slice (some ⟨g4, 0, none⟩) 7 7 := by rw [← Array.getD_eq_getD_getElem?]; exact hA.same 4 (by kernel_rfl)
              obtain ⟨k0, k1, k2, k3, k4, k5, k6, k7, k8, k9, k10, k11⟩ := (HC.out wx (HB4.out.trans (hI.mono HB4.out.size))).cells
              have hcs : i = 0 ∨ i = 1 ∨ i = 2 ∨ i = 3 ∨ i = 4 ∨ i = 5 ∨ i = 6 ∨ i = 7 ∨ i = 8 := by omega
              rcases hcs with rfl | rfl | rfl | rfl | rfl | rfl | rfl | rfl | rfl
              · obtain rfl := Option.some.inj ho
                exact step_val (v := .slice (some ⟨g4, 0, none⟩) 7 7) (by simp [go_sem, t4]) hI rfl
              · obtain rfl := Option.some.inj ho
                exact step_val (v := .pointer (some ⟨b, 7, none⟩)) (by simp [go_sem, t1]) hI rfl
              · obtain rfl := Option.some.inj ho
                have d1 : a.tmps[36]?.getD undef = .pointer (some ⟨b, 7, none⟩) := by rw [← Array.getD_eq_getD_getElem?]; exact hd { on := 1, ground := .data } (by simp) rfl
                exact step_val (v := .int .i64 (cl : Nat)) (by simp [go_sem, d1, k7]) hI rfl
              · obtain rfl := Option.some.inj ho
                have d2 : a.tmps[37]?.getD undef = .int .i64 (cl : Nat) := by rw [← Array.getD_eq_getD_getElem?]; exact hd { on := 2, ground := .data } (by simp) rfl
                exact step_call (f := 33) (args := #[.int .i64 (cl : Nat)]) (by simp [go_sem, d2]) (yp_call (T := prT b L.heap.size wc.heap.size g4 kd so se st un cl pt sa bw) (k := .val (.string (S (decDigits cl)))) rfl hI (itoa_grow HN.out.cl (HTT.out wx (HB4.out.trans (hI.mono HB4.out.size)))))
              · obtain rfl := Option.some.inj ho
                exact step_val (v := .pointer (some ⟨b, 8, none⟩)) (by simp [go_sem, t1]) hI rfl
              · obtain rfl := Option.some.inj ho
                have d4 : a.tmps[39]?.getD undef = .pointer (some ⟨b, 8, none⟩) := by rw [← Array.getD_eq_getD_getElem?]; exact hd { on := 4, ground := .data } (by simp) rfl
                exact step_val (v := .int .i64 (pt : Nat)) (by simp [go_sem, d4, k8]) hI rfl
              · obtain rfl := Option.some.inj ho
                have d5 : a.tmps[40]?.getD undef = .int .i64 (pt : Nat) := by rw [← Array.getD_eq_getD_getElem?]; exact hd { on := 5, ground := .data } (by simp) rfl
                exact step_call (f := 33) (args := #[.int .i64 (pt : Nat)]) (by simp [go_sem, d5]) (yp_call (T := prT b L.heap.size wc.heap.size g4 kd so se st un cl pt sa bw) (k := .val (.string (S (decDigits pt)))) rfl hI (itoa_grow HN.out.pt (HTT.out wx (HB4.out.trans (hI.mono HB4.out.size)))))
              · obtain rfl := Option.some.inj ho
                have d3 : a.tmps[38]?.getD undef = .string (S (decDigits cl)) := by rw [← Array.getD_eq_getD_getElem?]; exact hd { on := 3, ground := .data } (by simp) rfl
                have d6 : a.tmps[41]?.getD undef = .string (S (decDigits pt)) := by rw [← Array.getD_eq_getD_getElem?]; exact hd { on := 6, ground := .data } (by simp) rfl
                exact yp_new (T := prT b L.heap.size wc.heap.size g4 kd so se st un cl pt sa bw) (k := ypFull wc.heap.size [S wPart, S (decDigits cl), S (decDigits pt)]) (w' := wx.alloc (.cells ([S wPart, S (decDigits cl), S (decDigits pt)].map Value.string).toArray 9)) (v := .slice (some ⟨wx.heap.size, 0, none⟩) 3 3) rfl (by simp [go_sem, d3, d6, S_part]) hI ((Below.refl _ _).alloc (Nat.le_refl _) _) ⟨_, rfl, own_lit3 wx hI.size _ rfl⟩
              · obtain rfl := Option.some.inj ho
                have d0 : a.tmps[35]?.getD undef = .slice (some ⟨g4, 0, none⟩) 7 7 := by rw [← Array.getD_eq_getD_getElem?]; exact hd { on := 0, ground := .data } (by simp) rfl
                obtain ⟨g3, h7, q7⟩ := (show ∃ g, gotAt _ a 7 = .slice (some ⟨g, 0, none⟩) 3 3 ∧ wx.ownsRow wc.heap.size 9 1 (gotAt _ a 7) 3 ([S wPart, S (decDigits cl), S (decDigits pt)].map Value.string) from hd { on := 7, ground := .data } (by simp) rfl)
                rw [h7] at q7
                have d7 : a.tmps[42]?.getD undef = .slice (some ⟨g3, 0, none⟩) 3 3 := by rw [← Array.getD_eq_getD_getElem?]; exact h7
                have z0 : a.eval (.tmp 35) = .slice (some ⟨g4, 0, none⟩) 7 7 := hd { on := 0, ground := .data } (by simp) rfl
                have z7 : a.eval (.tmp 42) = .slice (some ⟨g3, 0, none⟩) 3 3 := h7
                obtain ⟨v', w', hr, ho8, hb8⟩ := append_full (ty := 32) (own_below HO4.out (hI)) (Nat.le_trans HB4.out.size hI.size) (by decide) ⟨g3, 0, none⟩ 3 3 ([S wPart, S (decDigits cl), S (decDigits pt)].map Value.string) (by decide) (by decide) rfl (q7.cells (g := g3) rfl) (one_all _)
                exact yp_new (T := prT b L.heap.size wc.heap.size g4 kd so se st un cl pt sa bw) (k := ypRow L.heap.size ([S (letK kd), S (decDigits so), S (decDigits se), sa, bw, S (decDigits st), S (decDigits un)] ++ [S wPart, S (decDigits cl), S (decDigits pt)])) (w' := w') (v := v') rfl (run_app rfl z0 z7 hr) hI hb8 ho8
            case qE =>
              intro listed a wx hA hY
              have hI := hA.inv
              have hs4 : wx.ownsRow L.heap.size 9 1 (a.eval (.tmp 43)) 10 (([S (letK kd), S (decDigits so), S (decDigits se), sa, bw, S (decDigits st), S (decDigits un)] ++ [S wPart, S (decDigits cl), S (decDigits pt)]).map Value.string) := hY 8 (by decide)
              obtain ⟨v43, h43⟩ : ∃ v, a.eval (.tmp 43) = v := ⟨_, rfl⟩
              rw [h43] at hs4
              have p43 : a.tmps[43]?.getD undef = v43 := by rw [← Array.getD_eq_getD_getElem?]; exact h43
              have hdf : a.defers = [] := hA.defers
              have hl : a.tmps.size = 63 := hA.size
              have fs0 := hA.same 0 (by kernel_rfl)
              have fs1 := hA.same 1 (by kernel_rfl)
              have fs2 := hA.same 2 (by kernel_rfl)
              have fs3 := hA.same 3 (by kernel_rfl)
              simp at fs0 fs1 fs2 fs3
              unfold Oper.wp
              have hrun : ∀ o : Oper, o.op = .assign (.tmp 43) → (execOp a.eval o).run Tryd.prog wx = .ok (.value v43) wx := fun o ho => by
                simp [execOp, ho, go_sem, p43]
              rw [hrun _ rfl]
              have HI6 := Lib.hid hI; have HS6 := Lib.hid hs4
              clear hA hY hrun p43 h43 hs4 hI
              obtain ⟨⟨ll⟩, df⟩ := a
              simp only at hdf
              subst hdf
              replace hl : ll.length = 62 + 1 := hl
              obtain ⟨x0, l0, e0, h0⟩ := lit_succ (n := 62) hl
              subst e0
              obtain ⟨x1, l1, e1, h1⟩ := lit_succ (n := 61) h0
              subst e1
              obtain ⟨x2, l2, e2, h2⟩ := lit_succ (n := 60) h1
              subst e2
              obtain ⟨x3, l3, e3, h3⟩ := lit_succ (n := 59) h2
              subst e3
              obtain ⟨x4, l4, e4, h4⟩ := lit_succ (n := 58) h3
              subst e4
              obtain ⟨x5, l5, e5, h5⟩ := lit_succ (n := 57) h4
              subst e5
              obtain ⟨x6, l6, e6, h6⟩ := lit_succ (n := 56) h5
              subst e6
              obtain ⟨x7, l7, e7, h7⟩ := lit_succ (n := 55) h6
              subst e7
              obtain ⟨x8, l8, e8, h8⟩ := lit_succ (n := 54) h7
              subst e8
              obtain ⟨x9, l9, e9, h9⟩ := lit_succ (n := 53) h8
              subst e9
              obtain ⟨x10, l10, e10, h10⟩ := lit_succ (n := 52) h9
              subst e10
              obtain ⟨x11, l11, e11, h11⟩ := lit_succ (n := 51) h10
              subst e11
              obtain ⟨x12, l12, e12, h12⟩ := lit_succ (n := 50) h11
              subst e12
              obtain ⟨x13, l13, e13, h13⟩ := lit_succ (n := 49) h12
              subst e13
              obtain ⟨x14, l14, e14, h14⟩ := lit_succ (n := 48) h13
              subst e14
              obtain ⟨x15, l15, e15, h15⟩ := lit_succ (n := 47) h14
              subst e15
              obtain ⟨x16, l16, e16, h16⟩ := lit_succ (n := 46) h15
              subst e16
              obtain ⟨x17, l17, e17, h17⟩ := lit_succ (n := 45) h16
              subst e17
              obtain ⟨x18, l18, e18, h18⟩ := lit_succ (n := 44) h17
              subst e18
              obtain ⟨x19, l19, e19, h19⟩ := lit_succ (n := 43) h18
              subst e19
              obtain ⟨x20, l20, e20, h20⟩ := lit_succ (n := 42) h19
              subst e20
              obtain ⟨x21, l21, e21, h21⟩ := lit_succ (n := 41) h20
              subst e21
              obtain ⟨x22, l22, e22, h22⟩ := lit_succ (n := 40) h21
              subst e22
              obtain ⟨x23, l23, e23, h23⟩ := lit_succ (n := 39) h22
              subst e23
              obtain ⟨x24, l24, e24, h24⟩ := lit_succ (n := 38) h23
              subst e24
              obtain ⟨x25, l25, e25, h25⟩ := lit_succ (n := 37) h24
              subst e25
              obtain ⟨x26, l26, e26, h26⟩ := lit_succ (n := 36) h25
              subst e26
              obtain ⟨x27, l27, e27, h27⟩ := lit_succ (n := 35) h26
              subst e27
              obtain ⟨x28, l28, e28, h28⟩ := lit_succ (n := 34) h27
              subst e28
              obtain ⟨x29, l29, e29, h29⟩ := lit_succ (n := 33) h28
              subst e29
              obtain ⟨x30, l30, e30, h30⟩ := lit_succ (n := 32) h29
              subst e30
              obtain ⟨x31, l31, e31, h31⟩ := lit_succ (n := 31) h30
              subst e31
              obtain ⟨x32, l32, e32, h32⟩ := lit_succ (n := 30) h31
              subst e32
              obtain ⟨x33, l33, e33, h33⟩ := lit_succ (n := 29) h32
              subst e33
              obtain ⟨x34, l34, e34, h34⟩ := lit_succ (n := 28) h33
              subst e34
              obtain ⟨x35, l35, e35, h35⟩ := lit_succ (n := 27) h34
              subst e35
              obtain ⟨x36, l36, e36, h36⟩ := lit_succ (n := 26) h35
              subst e36
              obtain ⟨x37, l37, e37, h37⟩ := lit_succ (n := 25) h36
              subst e37
              obtain ⟨x38, l38, e38, h38⟩ := lit_succ (n := 24) h37
              subst e38
              obtain ⟨x39, l39, e39, h39⟩ := lit_succ (n := 23) h38
              subst e39
              obtain ⟨x40, l40, e40, h40⟩ := lit_succ (n := 22) h39
              subst e40
              obtain ⟨x41, l41, e41, h41⟩ := lit_succ (n := 21) h40
              subst e41
              obtain ⟨x42, l42, e42, h42⟩ := lit_succ (n := 20) h41
              subst e42
              obtain ⟨x43, l43, e43, h43⟩ := lit_succ (n := 19) h42
              subst e43
              obtain ⟨x44, l44, e44, h44⟩ := lit_succ (n := 18) h43
              subst e44
              obtain ⟨x45, l45, e45, h45⟩ := lit_succ (n := 17) h44
              subst e45
              obtain ⟨x46, l46, e46, h46⟩ := lit_succ (n := 16) h45
              subst e46
              obtain ⟨x47, l47, e47, h47⟩ := lit_succ (n := 15) h46
              subst e47
              obtain ⟨x48, l48, e48, h48⟩ := lit_succ (n := 14) h47
              subst e48
              obtain ⟨x49, l49, e49, h49⟩ := lit_succ (n := 13) h48
              subst e49
              obtain ⟨x50, l50, e50, h50⟩ := lit_succ (n := 12) h49
              subst e50
              obtain ⟨x51, l51, e51, h51⟩ := lit_succ (n := 11) h50
              subst e51
              obtain ⟨x52, l52, e52, h52⟩ := lit_succ (n := 10) h51
              subst e52
              obtain ⟨x53, l53, e53, h53⟩ := lit_succ (n := 9) h52
              subst e53
              obtain ⟨x54, l54, e54, h54⟩ := lit_succ (n := 8) h53
              subst e54
              obtain ⟨x55, l55, e55, h55⟩ := lit_succ (n := 7) h54
              subst e55
              obtain ⟨x56, l56, e56, h56⟩ := lit_succ (n := 6) h55
              subst e56
              obtain ⟨x57, l57, e57, h57⟩ := lit_succ (n := 5) h56
              subst e57
              obtain ⟨x58, l58, e58, h58⟩ := lit_succ (n := 4) h57
              subst e58
              obtain ⟨x59, l59, e59, h59⟩ := lit_succ (n := 3) h58
              subst e59
              obtain ⟨x60, l60, e60, h60⟩ := lit_succ (n := 2) h59
              subst e60
              obtain ⟨x61, l61, e61, h61⟩ := lit_succ (n := 1) h60
              subst e61
              obtain ⟨x62, l62, e62, h62⟩ := lit_succ (n := 0) h61
              subst e62
              obtain rfl := List.length_eq_zero_iff.1 h62
              replace fs0 : x0 = _ := fs0
              subst fs0
              replace fs1 : x1 = _ := fs1
              subst fs1
              replace fs2 : x2 = _ := fs2
              subst fs2
              replace fs3 : x3 = _ := fs3
              subst fs3
              refine hK { tmps := #[_, _, _, _, v43, x5, x6, x7, x8, x9, x10, x11, x12, x13, x14, x15, x16, x17, x18, x19, x20, x21, x22, x23, x24, x25, x26, x27, x28, x29, x30, x31, x32, x33, x34, x35, x36, x37, x38, x39, x40, x41, x42, x43, x44, x45, x46, x47, x48, x49, x50, x51, x52, x53, x54, x55, x56, x57, x58, x59, x60, x61, x62], defers := [] } _ ?_
              go_meet
              case rel => exact ⟨HI6.out, HS6.out⟩
          case rest =>
            obtain ⟨hb6, ho6⟩ := hcut
            have hb6' := HB4.out.trans (hb6.mono HB4.out.size)
            have hbl6 : RcB wc b ⟨so, se, kd, sa, sb, st, un, cl, pt, b9, tr, b11⟩ := HC.out _ hb6'
            have e9 := hbl6.cells.2.2.2.2.2.2.2.2.2.1
            have HB6 := Lib.hid hb6'; have HO6 := Lib.hid ho6
            have hs6 := hb6'.size
            clear hb6 ho6 hb6' hbl6 e8 q0
            obtain ⟨i0, hi0, hz0, hz1, hz2⟩ := info_parts strInfo
            cases b9
            · go_wp2_with fail
              go_meet
              refine ⟨HB6.out, _, rfl, ?_⟩
              rw [if_neg HP.out, if_neg (by decide), List.append_nil]
              exact HO6.out
            · go_wp2_with (at_builtin; refine wpList_append_own_at _ rfl (.tmp 46) (.tmp 47) 32 rfl L.heap.size 9 i0 _ 1 16 Tryd.underlying32 hi0 hz0 hz1 hz2 rfl (by decide) _ _ _ rfl (HO6.out.alloc _) ⟨wc.heap.size, 0, none⟩ 1 1 [.string (S wLast)] rfl rfl (cell_one_new _ _ _) (fun u hu => by simp at hu; rw [hu]; rfl) (by decide) (by decide) (by simp; omega) ?_; intro v' w3 hown' hgrow3 hnil3 hat3
                           have hbw3 : Below L.heap.size L w3 := Below.grown (HB6.out.alloc (by omega) _) hgrow3 (by simp; omega) (fun j hj => (HO6.out.lt _ hj).1)
                           have X := Lib.hid (And.intro hown' hbw3)
                           clear hown' hgrow3 hnil3 hat3 hbw3)
              go_meet
              refine ⟨X.out.2, _, rfl, ?_⟩
              rw [if_neg HP.out, if_pos trivial, ← List.append_assoc]
              have h := X.out.1
              rw [← List.map_singleton (f := Value.string), ← List.map_append] at h
              exact h
      case rest =>
        obtain ⟨hb9, l2, hl2, ho9⟩ := hcut
        have e10 := (HC.out _ hb9).cells.2.2.2.2.2.2.2.2.2.2.1
        have e11 := (HC.out _ hb9).cells.2.2.2.2.2.2.2.2.2.2.2
        have hs9 := hb9.size
        have HTW := Lib.hid (HTT.out _ hb9)
        have HB9 := Lib.hid hb9; have HO9 := Lib.hid ho9; have HL2 := Lib.hid hl2
        have hn2 : 7 ≤ l2.length ∧ l2.length ≤ 11 := by
          rw [hl2]
          by_cases h1 : pt = 0 <;> cases b9 <;> simp [h1]
        obtain ⟨k2, hk2⟩ : ∃ k, l2.length = k + 1 := ⟨l2.length - 1, by omega⟩
        rw [hk2] at ho9
        obtain ⟨g9, c9, rfl, hc9, hc9'⟩ := own_some2 ho9
        have HO9 := Lib.hid ho9
        have htr := HN.out.tr
        simp only at htr
        clear hb9 ho9 hl2 e8
        obtain ⟨i0, hi0, hz0, hz1, hz2⟩ := info_parts strInfo
        by_cases ht0 : tr = 0
        · have q1 : ((tr : Int) != 0) = false := by simp [ht0]
          have HT0 := Lib.hid ht0
          clear ht0
          have HW : Hid (byt l2 = wordsL ⟨kd, so, se, sa.data.toList, sb.data.toList, st, un, cl, pt, b9, tr, b11⟩) := Lib.hid (by
            rw [HL2.out]
            unfold wordsL partWs trunkWs
            simp only [HT0.out, if_true, List.append_nil]
            by_cases h1 : pt = 0 <;> cases b9 <;> simp [h1, byt, S, HBW.out])
          go_wp2_with (go_at_call 34; (with_reducible refine (join_end HO9.out hk2 HW.out (words_len HN.out).2 (words_len HN.out).1).mono ?_); rintro e w6 ⟨rfl, hb6⟩; have HB6 := Lib.hid hb6; clear hb6)
          go_ret
          exact ⟨rfl, HB.out.trans ((HB9.out.trans (HB6.out.mono hs9)).mono HB.out.size)⟩
        · have q1 : ((tr : Int) != 0) = true := by simp [ht0]
          have HT0 := Lib.hid ht0
          clear ht0
          cases b11
          · go_upto_region 14 with (first
              | (go_at_call 33; (with_reducible refine (itoa_any tr _ (by omega) HTW.out).mono ?_); rintro e w5 ⟨rfl, hb5⟩; have hs5 := hb5.size; have HB5 := Lib.hid hb5; have HO5 := Lib.hid (own_below HO9.out hb5); clear hb5)
              | (at_builtin; refine wpList_append_own_at _ rfl (.tmp 54) (.tmp 59) 32 rfl L.heap.size 9 i0 _ 1 16 Tryd.underlying32 hi0 hz0 hz1 hz2 rfl (by decide) _ _ _ rfl (HO5.out.alloc _) ⟨w5.heap.size, 0, none⟩ 2 2 [.string _, .string (S (decDigits tr))] rfl rfl (two_new _ _ _ _) (two_one _ _) (by unfold maxLen; omega) (by omega) (by simp; omega) ?_; intro v' w3 hown' hgrow3 hnil3 hat3
                 obtain ⟨g5, c5, rfl, -, -⟩ := own_some2 (n := k2 + 2) hown'
                 have hbw3 : Below L.heap.size L w3 := Below.grown ((HB9.out.trans (HB5.out.mono hs9)).alloc (by omega) _) hgrow3 (by simp; omega) (fun j hj => (HO5.out.lt _ hj).1)
                 have X := Lib.hid (And.intro hown' hbw3)
                 clear hown' hgrow3 hnil3 hat3 hbw3))
            have HW : Hid (byt (l2 ++ [S wOut, S (decDigits tr)]) = wordsL ⟨kd, so, se, sa.data.toList, sb.data.toList, st, un, cl, pt, b9, tr, false⟩) := Lib.hid (by
              have ht1 := HT0.out
              rw [byt_app, HL2.out]
              unfold wordsL partWs trunkWs
              by_cases h1 : pt = 0 <;> cases b9 <;> simp [h1, ht1, byt, S, HBW.out])
            have HX : Hid (w3.ownsRow L.heap.size 9 1 (.slice (some ⟨g5, 0, none⟩) (k2 + 3 : Nat) c5) (k2 + 3) ((l2 ++ [S wOut, S (decDigits tr)]).map Value.string)) := Lib.hid (by rw [List.map_append]; exact X.out.1)
            have hs3 := X.out.2.size
            go_wp2_with (go_at_call 34; (with_reducible refine (join_end HX.out (by simp [hk2]) HW.out (words_len HN.out).2 (words_len HN.out).1).mono ?_); rintro e w6 ⟨rfl, hb6⟩; have HB6 := Lib.hid hb6; clear hb6)
            go_ret
            exact ⟨rfl, HB.out.trans ((X.out.2.trans (HB6.out.mono hs3)).mono HB.out.size)⟩
          · go_upto_region 14 with (first
              | (go_at_call 33; (with_reducible refine (itoa_any tr _ (by omega) HTW.out).mono ?_); rintro e w5 ⟨rfl, hb5⟩; have hs5 := hb5.size; have HB5 := Lib.hid hb5; have HO5 := Lib.hid (own_below HO9.out hb5); clear hb5)
              | (at_builtin; refine wpList_append_own_at _ rfl (.tmp 54) (.tmp 59) 32 rfl L.heap.size 9 i0 _ 1 16 Tryd.underlying32 hi0 hz0 hz1 hz2 rfl (by decide) _ _ _ rfl (HO5.out.alloc _) ⟨w5.heap.size, 0, none⟩ 2 2 [.string _, .string (S (decDigits tr))] rfl rfl (two_new _ _ _ _) (two_one _ _) (by unfold maxLen; omega) (by omega) (by simp; omega) ?_; intro v' w3 hown' hgrow3 hnil3 hat3
                 obtain ⟨g5, c5, rfl, -, -⟩ := own_some2 (n := k2 + 2) hown'
                 have hbw3 : Below L.heap.size L w3 := Below.grown ((HB9.out.trans (HB5.out.mono hs9)).alloc (by omega) _) hgrow3 (by simp; omega) (fun j hj => (HO5.out.lt _ hj).1)
                 have X := Lib.hid (And.intro hown' hbw3)
                 clear hown' hgrow3 hnil3 hat3 hbw3))
            have HW : Hid (byt (l2 ++ [S wIn, S (decDigits tr)]) = wordsL ⟨kd, so, se, sa.data.toList, sb.data.toList, st, un, cl, pt, b9, tr, true⟩) := Lib.hid (by
              have ht1 := HT0.out
              rw [byt_app, HL2.out]
              unfold wordsL partWs trunkWs
              by_cases h1 : pt = 0 <;> cases b9 <;> simp [h1, ht1, byt, S, HBW.out])
            have HX : Hid (w3.ownsRow L.heap.size 9 1 (.slice (some ⟨g5, 0, none⟩) (k2 + 3 : Nat) c5) (k2 + 3) ((l2 ++ [S wIn, S (decDigits tr)]).map Value.string)) := Lib.hid (by rw [List.map_append]; exact X.out.1)
            have hs3 := X.out.2.size
            go_wp2_with (go_at_call 34; (with_reducible refine (join_end HX.out (by simp [hk2]) HW.out (words_len HN.out).2 (words_len HN.out).1).mono ?_); rintro e w6 ⟨rfl, hb6⟩; have HB6 := Lib.hid hb6; clear hb6)
            go_ret
            exact ⟨rfl, HB.out.trans ((X.out.2.trans (HB6.out.mono hs3)).mono HB.out.size)⟩
end Go.Proofs.YtokdfdinnaghmaaDoor.Tx
