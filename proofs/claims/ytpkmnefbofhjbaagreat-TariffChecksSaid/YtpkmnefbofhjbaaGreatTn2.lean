/- 'append(s, xs...)', s the call's own, xs nil or not. Tariffs without rates, as the laws' awake makes them; walks: slices.Clone and lists.Copied of nothing. Walks: lists.Copied of one band, tariff.copied of a tariff without rates. Walks: slices.Clone of tariffs, lists.Copied of tariffs without rates. Walk: lists.Copied of tariffs without rates. Walks: slices.Grow of nothing, slices.Concat of three lists of tariffs. Walk: slices.Concat of lists of tariffs. What the laws' awake asks of tariffs without rates: mathematics. Walk: Replace of one tariff without rates by another version of it. Walk: At of tariffs without rates. Walk: the laws' plain. What awake finds. Walk: awake of the laws of tariff. -/
import Derived.Test.YtpkmnefbofhjbaaGreatLawKit
import Derived.Maps.AppendAt
import Derived.Test.YtpkmnefbofhjbaaGreatTn1
import Derived.Lib.AppendZeros
import Derived.BigQuiet
namespace Go.Proofs.YtpkmnefbofhjbaaGreat.Ap
open Go.RowKit Go.Proofs.YtpkmnefbofhjbaaGreat

/-- 'append(s, xs...)', s the call's own, xs nil or not. -/
theorem wpList_append_any {P : Program} {w : World} {ops : Array Oper} {rest : List Oper} {o : Oper} {a : Act} {Q : Exit → Act → World → Prop} (hgd : o.guard = none) (s x : Operand) (t : TypeId)
    (ho : o.op = .call { callee := .builtin .append, args := #[s, x], argTypes := #[t, t] })
    (base : Nat) (e : TypeId) (i : TypeInfo) (z : Value) (size bytes : Nat) (ht : P.underlying t = some (.slice e)) (hi : P.info? e = some i) (hz : i.zero = some z)
    (hsize : i.size = size) (hby : i.bytes = bytes) (hzs : z.cells.size = size) (hsz : 0 < size)
    (v : Value) (n : Nat) (xs : List Value) (hs : a.eval s = v) (hown : w.ownsRow base e size v n xs)
    (A : Option Addr) (m c : Nat) (news : List Value) (hx : a.eval x = .slice A m c) (hl : news.length = m * size) (hA : A = none → m = 0) (hnews : ∀ ad, A = some ad → ∀ j u, news[j]? = some u → w.cell? (ad.add j) = some u) (h1 : ∀ u ∈ news, u.oneCell' = true)
    (h63 : n + m ≤ maxLen) (hbytes : (n + m) * bytes ≤ 140737488355328) (hbase : base ≤ w.heap.size)
    (h : ∀ v' w', w'.ownsRow base e size v' (n + m) (xs ++ news) → w.grownBy w' v.ownBlock → wpList P ops Q rest (a.put o.dst v') w') : wpList P ops Q (o :: rest) a w := by
  cases A with
  | some ad => exact wpList_append_own _ hgd s x t ho base e i z size bytes ht hi hz hsize hby hzs hsz v n xs hs hown ad m c news hx hl (hnews ad rfl) h1 h63 hbytes hbase (fun v' w' g1 g2 _ => h v' w' g1 g2)
  | none =>
    obtain rfl := hA rfl
    obtain rfl : news = [] := List.eq_nil_of_length_eq_zero (by simpa using hl)
    refine wpList_plain hgd fun K hK => ?_
    have hrun : (Builtin.append_ #[t, t] o.type #[v, .slice none 0 c]).run P w = .ok v w := by
      rcases hown.2 with ⟨rfl, rfl⟩ | ⟨g, cap, cur, rfl, hb, hg, hnc, hcm, hcs, htake⟩
      · simp [Builtin.append_, run_underlying ht, sizeOf, typeInfo, hi, Builtin.lenOf, Builtin.firstCells, loadCells, loadCellsFrom]
      · simp [Builtin.append_, run_underlying ht, sizeOf, typeInfo, hi, Builtin.lenOf, Builtin.firstCells, loadCells, loadCellsFrom, storeCells, hnc]
    unfold Oper.wp
    simp [execOp, ho, resolve, invoke, builtin, hs, hx, hrun, Result.andThen]
    exact hK _ _ (h v w (by simpa using hown) (World.grownBy.refl w _))
end Go.Proofs.YtpkmnefbofhjbaaGreat.Ap
namespace Go.Proofs.YtpkmnefbofhjbaaGreat.Ck
open Go Go.Lib Go.RowKit Go.Proofs.YtpkmnefbofhjbaaGreat Go.Maps

theorem results_cell1 {P : Program} {fn : Func} {p : Tmp} {ty : TypeId} (h : fn.results = #[.cell p ty]) (tmps : Array Value) (w : World) (g : Nat) (t : TypeId) (cs : Array Value) (fr : Nat × Nat) (d : TypeDesc)
    (hp : tmps.getD p undef = .pointer (some ⟨g, 0, none⟩)) (hg : w.heap[g]? = some (.cells cs t fr))
    (hu : P.underlying ty = some d) (hd : (match d with | .struct _ | .array _ _ => true | _ => false) = true) (hi : (P.info? ty).map (·.size) = some cs.size) :
    (results fn tmps).run P w = .ok (.agg cs) w := by
  have hp' : tmps[p]?.getD undef = .pointer (some ⟨g, 0, none⟩) := by simpa using hp
  simp [results, h, hp', asAddr, run_loadVar_row w g t ty cs fr d hg hu hd hi]
/-- A band for all times lies here. -/
def PlR (w : World) (A : Option Addr) (c : Nat) : Prop := ∃ (b off : Nat), A = some ⟨b, off, none⟩ ∧ b < w.heap.size ∧ w.cell? ⟨b, off, none⟩ = some (.string ⟨#[97, 108, 108]⟩) ∧ w.cell? ⟨b, off + 1, none⟩ = some (.slice none 0 0) ∧ 1 ≤ c ∧ c ≤ maxLen
theorem PlR.below {w w' : World} {A : Option Addr} {c : Nat} (h : PlR w A c) (hb : Below w.heap.size w w') : PlR w' A c := by
  obtain ⟨b, off, e, hl, h0, h1, h2⟩ := h
  exact ⟨b, off, e, Nat.lt_of_lt_of_le hl hb.size, (hb.cell (p := ⟨b, off, none⟩) hl).trans h0, (hb.cell (p := ⟨b, off + 1, none⟩) hl).trans h1, h2⟩
/-- A tariff with a band for all times, and nothing else. -/
def plT (nm : ByteArray) (fr : Int) (A : Option Addr) (c : Nat) : Tf := ⟨nm, fr, false, none, 0, 0, [], A, 1, c, [(⟨#[97, 108, 108]⟩, [])], none, 0, 0, [], none, 0, 0, []⟩
theorem plT_N {nm : ByteArray} {fr : Int} {w : World} {A : Option Addr} {c : Nat} (h : PlR w A c) (hn : nm.size ≤ maxLen) : TfN (plT nm fr A c) := by
  obtain ⟨b, off, e, hl, h0, h1, h2, h3⟩ := h
  exact ⟨hn, rfl, Nat.le_refl _, Nat.zero_le _, rfl, h2, h3, rfl, Nat.le_refl _, Nat.zero_le _, rfl, Nat.le_refl _, Nat.zero_le _⟩
theorem plT_F {nm : ByteArray} {fr : Int} {A : Option Addr} {c : Nat} : Zn.Fit (plT nm fr A c).zl := fun z hz => by cases hz
theorem plT_R {nm : ByteArray} {fr : Int} {w : World} {A : Option Addr} {c : Nat} (h : PlR w A c) : TfR w (plT nm fr A c) := by
  obtain ⟨b, off, e, hl, h0, h1, h2, h3⟩ := h
  refine ⟨fun k hk => absurd hk (Nat.not_lt_zero k), fun k hk => ?_, fun k hk => absurd hk (Nat.not_lt_zero k), fun k hk => absurd hk (Nat.not_lt_zero k)⟩
  match k, hk with
  | 0, _ => exact ⟨b, off, none, 0, e, hl, h0, h1, Nat.le_refl _, Nat.zero_le _, fun j hj => absurd hj (Nat.not_lt_zero j), (by decide : (⟨#[97, 108, 108]⟩ : ByteArray).size ≤ maxLen)⟩
set_option maxRecDepth 100000 in
theorem cloneZ_nil (w : World) : Calls Tryz.prog 93 #[.slice none 0 0] w fun e w' => e = .returned (.slice none 0 0) ∧ w = w' := by
  have hnil0 : (binOp .eql 27 (.slice none 0 0) (.slice none 0 0)).run Tryz.prog w = .ok (.bool true) w := Lib.run_eql_slice_nil w 27 57 none 0 0 0 0 Tryz.underlying27
  go_enter Tryz.func93, Tryz.ntmps93
  go_wp2
  go_ret
  exact ⟨rfl, rfl⟩
set_option maxRecDepth 100000 in
theorem copiedZ_nil (w : World) : Calls Tryz.prog 52 #[.slice none 0 0, .func (.func 53) #[] #[]] w fun e w' => e = .returned (.slice none 0 0) ∧ w = w' := by
  have HC := Lib.hid (fun W => cloneZ_nil W)
  go_enter Tryz.func52, Tryz.ntmps52
  go_wp2_with (go_at_call 93; (with_reducible refine (HC.out _).mono ?_); rintro e w1 ⟨rfl, rfl⟩)
  go_loopw [12] (fun iv wr => iv = .int .i64 0 ∧ wr = w) (fun _ _ => 0)
  case atStart => exact ⟨rfl, rfl⟩
  case round =>
    obtain ⟨rfl, rfl⟩ := hrel
    go_wp2_with fail
    go_ret
    exact ⟨rfl, rfl⟩
set_option maxRecDepth 100000 in
theorem cloneR_nil (w : World) : Calls Tryz.prog 95 #[.slice none 0 0] w fun e w' => e = .returned (.slice none 0 0) ∧ w = w' := by
  have hnil0 : (binOp .eql 29 (.slice none 0 0) (.slice none 0 0)).run Tryz.prog w = .ok (.bool true) w := Lib.run_eql_slice_nil w 29 63 none 0 0 0 0 Tryz.underlying29
  go_enter Tryz.func95, Tryz.ntmps95
  go_wp2
  go_ret
  exact ⟨rfl, rfl⟩
set_option maxRecDepth 100000 in
theorem copiedR_nil (w : World) : Calls Tryz.prog 58 #[.slice none 0 0, .func (.func 59) #[] #[]] w fun e w' => e = .returned (.slice none 0 0) ∧ w = w' := by
  have HC := Lib.hid (fun W => cloneR_nil W)
  go_enter Tryz.func58, Tryz.ntmps58
  go_wp2_with (go_at_call 95; (with_reducible refine (HC.out _).mono ?_); rintro e w1 ⟨rfl, rfl⟩)
  go_loopw [12] (fun iv wr => iv = .int .i64 0 ∧ wr = w) (fun _ _ => 0)
  case atStart => exact ⟨rfl, rfl⟩
  case round =>
    obtain ⟨rfl, rfl⟩ := hrel
    go_wp2_with fail
    go_ret
    exact ⟨rfl, rfl⟩
set_option maxRecDepth 100000 in
theorem cloneD_nil (w : World) : Calls Tryz.prog 96 #[.slice none 0 0] w fun e w' => e = .returned (.slice none 0 0) ∧ w = w' := by
  have hnil0 : (binOp .eql 30 (.slice none 0 0) (.slice none 0 0)).run Tryz.prog w = .ok (.bool true) w := Lib.run_eql_slice_nil w 30 69 none 0 0 0 0 Tryz.underlying30
  go_enter Tryz.func96, Tryz.ntmps96
  go_wp2
  go_ret
  exact ⟨rfl, rfl⟩
set_option maxRecDepth 100000 in
theorem copiedD_nil (w : World) : Calls Tryz.prog 61 #[.slice none 0 0, .func (.func 62) #[] #[]] w fun e w' => e = .returned (.slice none 0 0) ∧ w = w' := by
  have HC := Lib.hid (fun W => cloneD_nil W)
  go_enter Tryz.func61, Tryz.ntmps61
  go_wp2_with (go_at_call 96; (with_reducible refine (HC.out _).mono ?_); rintro e w1 ⟨rfl, rfl⟩)
  go_loopw [12] (fun iv wr => iv = .int .i64 0 ∧ wr = w) (fun _ _ => 0)
  case atStart => exact ⟨rfl, rfl⟩
  case round =>
    obtain ⟨rfl, rfl⟩ := hrel
    go_wp2_with fail
    go_ret
    exact ⟨rfl, rfl⟩
set_option maxRecDepth 100000 in
theorem cloneS_nil (w : World) : Calls Tryz.prog 57 #[.slice none 0 0] w fun e w' => e = .returned (.slice none 0 0) ∧ w = w' := by
  have hnil0 : (binOp .eql 58 (.slice none 0 0) (.slice none 0 0)).run Tryz.prog w = .ok (.bool true) w := Lib.run_eql_slice_nil w 58 97 none 0 0 0 0 Tryz.underlying58
  go_enter Tryz.func57, Tryz.ntmps57
  go_wp2
  go_ret
  exact ⟨rfl, rfl⟩
set_option maxRecDepth 100000 in
set_option maxHeartbeats 4000000 in
theorem copied2_is (s : ByteArray) (w : World) : Calls Tryz.prog 56 #[.agg #[.string s, .slice none 0 0]] w fun e w' => e = .returned (.agg #[.string s, .slice none 0 0]) ∧ Below w.heap.size w w' := by
  have HC := Lib.hid (fun W => cloneS_nil W)
  go_enter Tryz.func56, Tryz.ntmps56
  go_wp2_with (go_at_call 57; (with_reducible refine (HC.out _).mono ?_); rintro e w1 ⟨rfl, rfl⟩)
  have h := Blk.new (w.alloc (.cells #[.string s, .slice none 0 0] 60)) 60 #[.string s, .slice none 0 0]
  rw [show (w.alloc (.cells #[.string s, .slice none 0 0] 60)).heap.size = w.heap.size + 1 by simp] at h
  exact bodyPost_ret (results_cell1 (p := 2) rfl _ _ (w.heap.size + 1) 60 #[.string s, .slice none 0 0] (0, 0) _ rfl h Tryz.underlying60 rfl rfl) rfl ⟨rfl, (below_one w _).alloc (by simp) _⟩
theorem bdInfo : (Tryz.prog.info? 60).map (fun i => (i.zero, i.size, i.bytes)) = some (some (.agg #[.string ⟨#[]⟩, .slice none 0 0]), 2, 40) := by kernel_rfl
theorem own_litB (w : World) : (w.alloc (.cells #[] 60)).ownsRow w.heap.size 60 2 (.slice (some ⟨w.heap.size, 0, none⟩) 0 0) 0 [] :=
  World.ownsRow_lit w #[] 0 (Nat.le_refl _) (by decide) rfl
set_option maxRecDepth 100000 in
set_option maxHeartbeats 4000000 in
theorem cloneB_one (A : Option Addr) (c : Nat) (w : World) (hA : PlR w A c) : Calls Tryz.prog 94 #[.slice A 1 c] w fun e w' => ∃ v, e = .returned v ∧ w'.ownsRow w.heap.size 60 2 v 1 [.string ⟨#[97, 108, 108]⟩, .slice none 0 0] ∧ Below w.heap.size w w' := by
  obtain ⟨b, off, rfl, hl, h0, h1, h2, h3⟩ := hA
  obtain ⟨i0, hi0, hz0, hz1, hz2⟩ := info_parts bdInfo
  have HOL := Lib.hid (own_litB w)
  have hb := below_one w (.cells #[] 60)
  have HSR : Hid (∀ j u, [Value.string ⟨#[97, 108, 108]⟩, .slice none 0 0][j]? = some u → (w.alloc (.cells #[] 60)).cell? ((⟨b, off, none⟩ : Addr).add j) = some u) := Lib.hid (fun j u hj => by
    rw [add_none]
    match j, hj with
    | 0, hj => rw [hb.cell (p := ⟨b, off + 0, none⟩) hl]; simpa using h0.trans hj
    | 1, hj => rw [hb.cell (p := ⟨b, off + 1, none⟩) hl]; simpa using h1.trans hj
    | j + 2, hj => simp at hj)
  have hnil1 : (binOp .eql 28 (.slice (some ⟨b, off, none⟩) 1 c) (.slice none 0 0)).run Tryz.prog w = .ok (.bool false) w := Lib.run_eql_slice_nil w 28 60 (some ⟨b, off, none⟩) 1 c 0 0 Tryz.underlying28
  have HB := Lib.hid hb
  clear hb h0 h1
  go_enter Tryz.func94, Tryz.ntmps94
  go_wp2_with (at_builtin; refine wpList_append_own_at _ rfl (.tmp 5) (.tmp 6) 28 rfl w.heap.size 60 i0 _ 2 40 Tryz.underlying28 hi0 hz0 hz1 hz2 rfl (by decide) _ 0 [] rfl HOL.out ⟨b, off, none⟩ 1 c [.string ⟨#[97, 108, 108]⟩, .slice none 0 0] rfl rfl HSR.out (by simp [Value.oneCell']) (by unfold maxLen; omega) (by omega) (by simp) ?_; intro v4 w4 x1 x2 _ x3; have HO4 := Lib.hid x1; have hb4 := Zn.below_grown HB.out x2 (fun k hk => (World.ownsRow.lt HOL.out k hk).1) (by simp); clear x1 x2 x3)
  go_ret
  exact ⟨_, rfl, HO4.out, hb4⟩
end Go.Proofs.YtpkmnefbofhjbaaGreat.Ck
namespace Go.Proofs.YtpkmnefbofhjbaaGreat.Ck
open Go Go.Lib Go.RowKit Go.Proofs.YtpkmnefbofhjbaaGreat Go.Maps

/-- A band for all times lies here, from block B on. -/
def PlB (B : Nat) (w : World) (A : Option Addr) (c : Nat) : Prop := ∃ b, A = some ⟨b, 0, none⟩ ∧ B ≤ b ∧ b < w.heap.size ∧ w.cell? ⟨b, 0, none⟩ = some (.string ⟨#[97, 108, 108]⟩) ∧ w.cell? ⟨b, 1, none⟩ = some (.slice none 0 0) ∧ 1 ≤ c ∧ c ≤ maxLen
theorem PlB.lies {B : Nat} {w : World} {A : Option Addr} {c : Nat} (h : PlB B w A c) : PlR w A c := by
  obtain ⟨b, e, _, hl, h0, h1, h2⟩ := h
  exact ⟨b, 0, e, hl, h0, h1, h2⟩
theorem PlB.mono {B B' : Nat} {w : World} {A : Option Addr} {c : Nat} (h : PlB B w A c) (hB : B' ≤ B) : PlB B' w A c := by
  obtain ⟨b, e, h', hl, h0, h1, h2⟩ := h
  exact ⟨b, e, Nat.le_trans hB h', hl, h0, h1, h2⟩
theorem PlB.keep {B : Nat} {w w' : World} {A : Option Addr} {c : Nat} (h : PlB B w A c) (hs : w.heap.size ≤ w'.heap.size) (hk : ∀ k, B ≤ k → k < w.heap.size → w'.heap[k]? = w.heap[k]?) : PlB B w' A c := by
  obtain ⟨b, e, h', hl, h0, h1, h2⟩ := h
  have f : ∀ p, w'.cell? ⟨b, p, none⟩ = w.cell? ⟨b, p, none⟩ := fun p => World.cell?_of_block (a := ⟨b, p, none⟩) (hk b h' hl)
  exact ⟨b, e, h', Nat.lt_of_lt_of_le hl hs, (f 0).trans h0, (f 1).trans h1, h2⟩
/-- The call's own list of one band. -/
def Own2 (w : World) (base g c : Nat) : Prop := w.ownsRow base 60 2 (.slice (some ⟨g, 0, none⟩) 1 c) 1 [.string ⟨#[97, 108, 108]⟩, .slice none 0 0]
theorem Own2.ask {w : World} {base g c : Nat} (h : Own2 w base g c) : w.cell? ⟨g, 0, none⟩ = some (.string ⟨#[97, 108, 108]⟩) ∧ w.cell? ⟨g, 1, none⟩ = some (.slice none 0 0) ∧ w.frozen? ⟨g, 0, none⟩ = false ∧
    (w.setCell ⟨g, 0, none⟩ (.string ⟨#[97, 108, 108]⟩)).cell? ⟨g, 1, none⟩ = some (.slice none 0 0) ∧ (w.setCell ⟨g, 0, none⟩ (.string ⟨#[97, 108, 108]⟩)).frozen? ⟨g, 1, none⟩ = false :=
  ⟨World.ownsRow.cellAt h 0 (by decide), World.ownsRow.cellAt h 1 (by decide), World.ownsRow.frozenAt h 0, World.ownsRow.cellAt (World.ownsRow.stored h 0 _).1 1 (by decide), World.ownsRow.frozenAt (World.ownsRow.stored h 0 _).1 1⟩
theorem Own2.put {w : World} {base g c : Nat} (h : Own2 w base g c) : Own2 ((w.setCell ⟨g, 0, none⟩ (.string ⟨#[97, 108, 108]⟩)).setCell ⟨g, 1, none⟩ (.slice none 0 0)) base g c :=
  (World.ownsRow.stored (World.ownsRow.stored h 0 (.string ⟨#[97, 108, 108]⟩)).1 1 (.slice none 0 0)).1
theorem Own2.lies {w : World} {base g c : Nat} (h : Own2 w base g c) (h1 : 1 ≤ c) (h2 : c ≤ maxLen) : PlB base w (some ⟨g, 0, none⟩) c := by
  have hg := World.ownsRow.lt h g rfl
  exact ⟨g, rfl, hg.1, hg.2, (h.ask).1, (h.ask).2.1, h1, h2⟩
theorem own_formR {w : World} {base e size n : Nat} {v : Value} {xs : List Value} (h : w.ownsRow base e size v n xs) (hn : 0 < n) : ∃ g c, v = .slice (some ⟨g, 0, none⟩) n c ∧ n ≤ c ∧ c ≤ maxLen ∧ base ≤ g ∧ g < w.heap.size := by
  rcases h.2 with ⟨rfl, h0⟩ | ⟨g, cap, cur, rfl, h1, h2, h3, h4, h5, h6⟩
  · omega
  · exact ⟨g, cap, rfl, h3, h4, h1, (Array.getElem?_eq_some_iff.1 h2).1⟩
set_option maxRecDepth 100000 in
set_option maxHeartbeats 4000000 in
theorem copiedB_one (A : Option Addr) (c : Nat) (w : World) (hA : PlR w A c) : Calls Tryz.prog 55 #[.slice A 1 c, .func (.func 56) #[] #[]] w fun e w' => ∃ A' c', e = .returned (.slice A' 1 c') ∧ PlB w.heap.size w' A' c' ∧ Below w.heap.size w w' := by
  have HC := Lib.hid (cloneB_one A c w hA)
  have HC2 := Lib.hid (fun W => copied2_is ⟨#[97, 108, 108]⟩ W)
  clear hA
  go_enter Tryz.func55, Tryz.ntmps55
  go_wp2_with (go_at_call 94; go_loud ((with_reducible refine HC.out.mono ?_); rintro e w1 ⟨v, rfl, h1, h2⟩); obtain ⟨g, c1, rfl, hc1, hm1, hg1, hg2⟩ := own_formR h1 (by decide); have HO1 : Hid (Own2 w1 w.heap.size g c1) := Lib.hid h1; have HB1 := Lib.hid h2; clear h1 h2)
  go_loopw [12] (fun iv wr => ∃ k : Nat, iv = .int .i64 (k : Nat) ∧ k ≤ 1 ∧ Hid (Own2 wr w.heap.size g c1) ∧ Below w.heap.size w wr) (fun iv _ => (2 - RowKit.intOf iv).toNat)
  case atStart => exact ⟨0, rfl, by decide, HO1, HB1.out⟩
  case round =>
    obtain ⟨k, rfl, hk, HO, hb⟩ := hrel
    have hs := hb.size
    by_cases hlt : k < 1
    · obtain rfl : k = 0 := by omega
      obtain ⟨c0, c1', -⟩ := HO.out.ask
      have HB := Lib.hid hb
      have HP1 : Hid (Blk (wr.alloc (.cells #[.string ⟨#[97, 108, 108]⟩, .slice none 0 0] 60)) wr.heap.size 60 #[.string ⟨#[97, 108, 108]⟩, .slice none 0 0]) := Lib.hid (Blk.new _ _ _)
      have e0 := HP1.out.cell 0
      have e1 := HP1.out.cell 1
      obtain ⟨gr, hgr⟩ : ∃ gr, wr.heap.size = gr := ⟨_, rfl⟩
      rw [hgr] at HP1 e0 e1
      go_wp2_with (go_at_call 56; (with_reducible refine (HC2.out _).mono ?_); rintro e w3 ⟨rfl, hb3⟩; have hb4 := HB.out; have HO3 : Hid (Own2 w3 w.heap.size g c1) := Lib.hid (Zn.own_keep (World.ownsRow.alloc HO.out _) hb3); have HB3 : Hid (Below w.heap.size w w3) := Lib.hid ((HB.out.alloc HB.out.size _).trans (hb3.mono (HB.out.alloc HB.out.size _).size)); clear c0 c1'; obtain ⟨c0, c1', q0, q1, q2⟩ := HO3.out.ask; clear hb3)
      go_roundw
      case rel => exact ⟨1, by go_num, by decide, Lib.hid HO3.out.put, (HB3.out.setCell hg1 _).setCell hg1 _⟩
      case measure => simp [RowKit.intOf]
    · obtain rfl : k = 1 := by omega
      go_wp2_with fail
      go_ret
      exact ⟨_, _, rfl, HO.out.lies hc1 hm1, hb⟩
theorem put7 {w : World} {g : Nat} {t : TypeId} {z0 z1 z2 z3 z4 z5 z6 : Value} (h : Blk w g t #[z0, z1, z2, z3, z4, z5, z6]) (a b c d e f x : Value) :
    Blk (((((((w.setCell ⟨g, 0, none⟩ a).setCell ⟨g, 1, none⟩ b).setCell ⟨g, 2, none⟩ c).setCell ⟨g, 3, none⟩ d).setCell ⟨g, 4, none⟩ e).setCell ⟨g, 5, none⟩ f).setCell ⟨g, 6, none⟩ x) g t #[a, b, c, d, e, f, x] := by
  have := ((((((h.set_ 0 a).set_ 1 b).set_ 2 c).set_ 3 d).set_ 4 e).set_ 5 f).set_ 6 x
  simpa using this
theorem ask7 {w : World} {g : Nat} {t : TypeId} {z0 z1 z2 z3 z4 z5 z6 : Value} (h : Blk w g t #[z0, z1, z2, z3, z4, z5, z6]) (a b c d e f x : Value) :
    w.cell? ⟨g, 0, none⟩ = some z0 ∧ w.frozen? ⟨g, 0, none⟩ = false ∧ (w.setCell ⟨g, 0, none⟩ a).cell? ⟨g, 1, none⟩ = some z1 ∧ (w.setCell ⟨g, 0, none⟩ a).frozen? ⟨g, 1, none⟩ = false ∧ ((w.setCell ⟨g, 0, none⟩ a).setCell ⟨g, 1, none⟩ b).cell? ⟨g, 2, none⟩ = some z2 ∧ ((w.setCell ⟨g, 0, none⟩ a).setCell ⟨g, 1, none⟩ b).frozen? ⟨g, 2, none⟩ = false ∧ (((w.setCell ⟨g, 0, none⟩ a).setCell ⟨g, 1, none⟩ b).setCell ⟨g, 2, none⟩ c).cell? ⟨g, 3, none⟩ = some z3 ∧ (((w.setCell ⟨g, 0, none⟩ a).setCell ⟨g, 1, none⟩ b).setCell ⟨g, 2, none⟩ c).frozen? ⟨g, 3, none⟩ = false ∧ ((((w.setCell ⟨g, 0, none⟩ a).setCell ⟨g, 1, none⟩ b).setCell ⟨g, 2, none⟩ c).setCell ⟨g, 3, none⟩ d).cell? ⟨g, 4, none⟩ = some z4 ∧ ((((w.setCell ⟨g, 0, none⟩ a).setCell ⟨g, 1, none⟩ b).setCell ⟨g, 2, none⟩ c).setCell ⟨g, 3, none⟩ d).frozen? ⟨g, 4, none⟩ = false ∧ (((((w.setCell ⟨g, 0, none⟩ a).setCell ⟨g, 1, none⟩ b).setCell ⟨g, 2, none⟩ c).setCell ⟨g, 3, none⟩ d).setCell ⟨g, 4, none⟩ e).cell? ⟨g, 5, none⟩ = some z5 ∧ (((((w.setCell ⟨g, 0, none⟩ a).setCell ⟨g, 1, none⟩ b).setCell ⟨g, 2, none⟩ c).setCell ⟨g, 3, none⟩ d).setCell ⟨g, 4, none⟩ e).frozen? ⟨g, 5, none⟩ = false ∧ ((((((w.setCell ⟨g, 0, none⟩ a).setCell ⟨g, 1, none⟩ b).setCell ⟨g, 2, none⟩ c).setCell ⟨g, 3, none⟩ d).setCell ⟨g, 4, none⟩ e).setCell ⟨g, 5, none⟩ f).cell? ⟨g, 6, none⟩ = some z6 ∧ ((((((w.setCell ⟨g, 0, none⟩ a).setCell ⟨g, 1, none⟩ b).setCell ⟨g, 2, none⟩ c).setCell ⟨g, 3, none⟩ d).setCell ⟨g, 4, none⟩ e).setCell ⟨g, 5, none⟩ f).frozen? ⟨g, 6, none⟩ = false := by
  have h1 : Blk (w.setCell ⟨g, 0, none⟩ a) g t #[a, z1, z2, z3, z4, z5, z6] := h.set_ 0 a
  have h2 : Blk ((w.setCell ⟨g, 0, none⟩ a).setCell ⟨g, 1, none⟩ b) g t #[a, b, z2, z3, z4, z5, z6] := h1.set_ 1 b
  have h3 : Blk (((w.setCell ⟨g, 0, none⟩ a).setCell ⟨g, 1, none⟩ b).setCell ⟨g, 2, none⟩ c) g t #[a, b, c, z3, z4, z5, z6] := h2.set_ 2 c
  have h4 : Blk ((((w.setCell ⟨g, 0, none⟩ a).setCell ⟨g, 1, none⟩ b).setCell ⟨g, 2, none⟩ c).setCell ⟨g, 3, none⟩ d) g t #[a, b, c, d, z4, z5, z6] := h3.set_ 3 d
  have h5 : Blk (((((w.setCell ⟨g, 0, none⟩ a).setCell ⟨g, 1, none⟩ b).setCell ⟨g, 2, none⟩ c).setCell ⟨g, 3, none⟩ d).setCell ⟨g, 4, none⟩ e) g t #[a, b, c, d, e, z5, z6] := h4.set_ 4 e
  have h6 : Blk ((((((w.setCell ⟨g, 0, none⟩ a).setCell ⟨g, 1, none⟩ b).setCell ⟨g, 2, none⟩ c).setCell ⟨g, 3, none⟩ d).setCell ⟨g, 4, none⟩ e).setCell ⟨g, 5, none⟩ f) g t #[a, b, c, d, e, f, z6] := h5.set_ 5 f
  exact ⟨h.cell 0, h.frozen 0, h1.cell 1, h1.frozen 1, h2.cell 2, h2.frozen 2, h3.cell 3, h3.frozen 3, h4.cell 4, h4.frozen 4, h5.cell 5, h5.frozen 5, h6.cell 6, h6.frozen 6⟩
theorem below7 {B : Nat} {w0 w : World} {g : Nat} {a b c d e f x : Value} (h : Below B w0 w) (hg : B ≤ g) :
    Below B w0 (((((((w.setCell ⟨g, 0, none⟩ a).setCell ⟨g, 1, none⟩ b).setCell ⟨g, 2, none⟩ c).setCell ⟨g, 3, none⟩ d).setCell ⟨g, 4, none⟩ e).setCell ⟨g, 5, none⟩ f).setCell ⟨g, 6, none⟩ x) := by
  repeat' apply Below.setCell
  all_goals first | exact h | exact hg
theorem keep7 {w : World} {g k : Nat} {a b c d e f x : Value} (h : k ≠ g) :
    (((((((w.setCell ⟨g, 0, none⟩ a).setCell ⟨g, 1, none⟩ b).setCell ⟨g, 2, none⟩ c).setCell ⟨g, 3, none⟩ d).setCell ⟨g, 4, none⟩ e).setCell ⟨g, 5, none⟩ f).setCell ⟨g, 6, none⟩ x).heap[k]? = w.heap[k]? := by
  repeat rw [Below.heap_setCell _ _ _ k h]
theorem size7 {w : World} {g : Nat} {a b c d e f x : Value} :
    (((((((w.setCell ⟨g, 0, none⟩ a).setCell ⟨g, 1, none⟩ b).setCell ⟨g, 2, none⟩ c).setCell ⟨g, 3, none⟩ d).setCell ⟨g, 4, none⟩ e).setCell ⟨g, 5, none⟩ f).setCell ⟨g, 6, none⟩ x).heap.size = w.heap.size := by
  simp [World.setCell]
theorem size_set (w : World) (a : Addr) (u : Value) : (w.setCell a u).heap.size = w.heap.size := by simp [World.setCell]
set_option maxRecDepth 100000 in
set_option maxHeartbeats 8000000 in
theorem copied_plain (nm : ByteArray) (fr : Int) (A : Option Addr) (c : Nat) (w : World) (hA : PlR w A c) : Calls Tryz.prog 24 #[.agg #[.string nm, .int .i64 fr, .bool false, .slice none 0 0, .slice A 1 c, .slice none 0 0, .slice none 0 0]] w fun e w' =>
    ∃ A' c', e = .returned (.agg #[.string nm, .int .i64 fr, .bool false, .slice none 0 0, .slice A' 1 c', .slice none 0 0, .slice none 0 0]) ∧ PlB w.heap.size w' A' c' ∧ Below w.heap.size w w' := by
  obtain ⟨b0, hb0⟩ : ∃ b, w.heap.size = b := ⟨_, rfl⟩
  obtain ⟨L, hL⟩ : ∃ L, (w.alloc (.cells #[.string nm, .int .i64 fr, .bool false, .slice none 0 0, .slice A 1 c, .slice none 0 0, .slice none 0 0] 32)).alloc (.cells #[.string ⟨#[]⟩, .int .i64 0, .bool false, .slice none 0 0, .slice none 0 0, .slice none 0 0, .slice none 0 0] 32) = L := ⟨_, rfl⟩
  have hBL : Below w.heap.size w L := hL ▸ (below_one w _).alloc (by simp) _
  have hp0 : Blk L b0 32 #[.string nm, .int .i64 fr, .bool false, .slice none 0 0, .slice A 1 c, .slice none 0 0, .slice none 0 0] := hL ▸ hb0 ▸ (Blk.new w _ _).alloc _
  have hr0 : Blk L (b0 + 1) 32 #[.string ⟨#[]⟩, .int .i64 0, .bool false, .slice none 0 0, .slice none 0 0, .slice none 0 0, .slice none 0 0] := by
    have h := Blk.new (w.alloc (.cells #[.string nm, .int .i64 fr, .bool false, .slice none 0 0, .slice A 1 c, .slice none 0 0, .slice none 0 0] 32)) 32 #[.string ⟨#[]⟩, .int .i64 0, .bool false, .slice none 0 0, .slice none 0 0, .slice none 0 0, .slice none 0 0]
    rw [World.size_alloc, hb0, hL] at h
    exact h
  have hLs : L.heap.size = b0 + 2 := by rw [← hL, ← hb0]; simp
  -- the first list's store
  have hp1 : Blk (L.setCell ⟨b0, 3, none⟩ (.slice none 0 0)) b0 32 #[.string nm, .int .i64 fr, .bool false, .slice none 0 0, .slice A 1 c, .slice none 0 0, .slice none 0 0] := hp0.set_ 3 (.slice none 0 0)
  have hr1 := hr0.far (p := ⟨b0, 3, none⟩) (by simp) (.slice none 0 0)
  have hB1 : Below w.heap.size w (L.setCell ⟨b0, 3, none⟩ (.slice none 0 0)) := hBL.setCell (by rw [hb0]; exact Nat.le_refl _) _
  have hCB := copiedB_one A c (L.setCell ⟨b0, 3, none⟩ (.slice none 0 0)) (hA.below hB1)
  have hs1 : (L.setCell ⟨b0, 3, none⟩ (.slice none 0 0)).heap.size = b0 + 2 := (size_set _ _ _).trans hLs
  have HZ := Lib.hid (copiedZ_nil L)
  have HCB := Lib.hid hCB
  have HCR := Lib.hid (fun W => copiedR_nil W)
  have HCD := Lib.hid (fun W => copiedD_nil W)
  have HP1 := Lib.hid hp1; have HR1 := Lib.hid hr1; have HBL := Lib.hid hB1; have HLS := Lib.hid hs1; have HB0 := Lib.hid hb0
  obtain ⟨c0, c1, c2, c3, c4, c5, c6⟩ := seven hp0
  have f3 := hp0.frozen 3
  have d4 := hp1.cell 4
  clear hA hBL hp0 hr0 hLs hp1 hr1 hB1 hCB hs1
  go_enter Tryz.func24, Tryz.ntmps24
  go_wp2_with (first
    | (go_at_call 52; go_loud ((with_reducible refine HZ.out.mono ?_); rintro e w1 ⟨rfl, rfl⟩))
    | (go_at_call 55; go_loud ((with_reducible refine HCB.out.mono ?_); rintro e w1 ⟨A1, m1, rfl, hP, hb1⟩; have HPB := Lib.hid hP; have HB1 := Lib.hid hb1; have hp2 := HP1.out.below hb1 HP1.out.lt; have f4 := hp2.frozen 4; have x4 := hp2.cell 4; have hp3 : Blk (w1.setCell ⟨b0, 4, none⟩ (.slice A1 1 m1)) b0 32 #[.string nm, .int .i64 fr, .bool false, .slice none 0 0, .slice A1 1 m1, .slice none 0 0, .slice none 0 0] := hp2.set_ 4 (.slice A1 1 m1); have x5 := hp3.cell 5; have f5 := hp3.frozen 5; have hp4 : Blk ((w1.setCell ⟨b0, 4, none⟩ (.slice A1 1 m1)).setCell ⟨b0, 5, none⟩ (.slice none 0 0)) b0 32 #[.string nm, .int .i64 fr, .bool false, .slice none 0 0, .slice A1 1 m1, .slice none 0 0, .slice none 0 0] := hp3.set_ 5 (.slice none 0 0); have x6 := hp4.cell 6; have f6 := hp4.frozen 6; have hp5 : Blk (((w1.setCell ⟨b0, 4, none⟩ (.slice A1 1 m1)).setCell ⟨b0, 5, none⟩ (.slice none 0 0)).setCell ⟨b0, 6, none⟩ (.slice none 0 0)) b0 32 #[.string nm, .int .i64 fr, .bool false, .slice none 0 0, .slice A1 1 m1, .slice none 0 0, .slice none 0 0] := hp4.set_ 6 (.slice none 0 0); obtain ⟨y0, y1, y2, y3, y4, y5, y6⟩ := seven hp5; have hr5 := (((HR1.out.below hb1 HR1.out.lt).far (p := ⟨b0, 4, none⟩) (by simp) (.slice A1 1 m1)).far (p := ⟨b0, 5, none⟩) (by simp) (.slice none 0 0)).far (p := ⟨b0, 6, none⟩) (by simp) (.slice none 0 0); have HR5 := Lib.hid hr5; obtain ⟨r0, s0, r1, s1, r2, s2, r3, s3, r4, s4, r5, s5, r6, s6⟩ := ask7 hr5 (.string nm) (.int .i64 fr) (.bool false) (.slice none 0 0) (.slice A1 1 m1) (.slice none 0 0) (.slice none 0 0); clear hr5; clear hP hb1 hp2 hp3 hp4 hp5 hb0 hL c0 c1 c2 c3 c4 c5 c6))
    | (go_at_call 58; go_loud ((with_reducible refine (HCR.out _).mono ?_); rintro e w2 ⟨rfl, rfl⟩))
    | (go_at_call 61; go_loud ((with_reducible refine (HCD.out _).mono ?_); rintro e w3 ⟨rfl, rfl⟩)))
  obtain ⟨W5, hW5⟩ : ∃ W5, ((w1.setCell ⟨b0, 4, none⟩ (.slice A1 1 m1)).setCell ⟨b0, 5, none⟩ (.slice none 0 0)).setCell ⟨b0, 6, none⟩ (.slice none 0 0) = W5 := ⟨_, rfl⟩
  have hr5 := HR5.out
  have hB5 : Below w.heap.size w W5 := hW5 ▸ (((HBL.out.trans (HB1.out.mono HBL.out.size)).setCell (p := ⟨b0, 4, none⟩) (Nat.le_of_eq HB0.out) _).setCell (p := ⟨b0, 5, none⟩) (Nat.le_of_eq HB0.out) _).setCell (p := ⟨b0, 6, none⟩) (Nat.le_of_eq HB0.out) _
  have hk5 : ∀ k, k ≠ b0 → W5.heap[k]? = w1.heap[k]? := fun k hk => by
    rw [← hW5, Below.heap_setCell _ _ _ _ hk, Below.heap_setCell _ _ _ _ hk, Below.heap_setCell _ _ _ _ hk]
  have hs5 : W5.heap.size = w1.heap.size := by rw [← hW5, size_set, size_set, size_set]
  rw [hW5] at hr5 ⊢
  clear y0 y1 y2 y3 y4 y5 y6 r0 r1 r2 r3 r4 r5 r6 s0 s1 s2 s3 s4 s5 s6
  have hput := put7 hr5 (.string nm) (.int .i64 fr) (.bool false) (.slice none 0 0) (.slice A1 1 m1) (.slice none 0 0) (.slice none 0 0)
  have hl := HLS.out
  refine bodyPost_ret (results_cell1 (p := 2) rfl _ _ (b0 + 1) 32 #[.string nm, .int .i64 fr, .bool false, .slice none 0 0, .slice A1 1 m1, .slice none 0 0, .slice none 0 0] (0, 0) _ rfl hput Tryz.underlying32 rfl rfl) rfl ⟨A1, m1, rfl, ?_, below7 hB5 (by have := HB0.out; omega)⟩
  refine (HPB.out.keep (w' := _) ?_ ?_).mono (by have := HB0.out; omega)
  · rw [size7, hs5]; exact Nat.le_refl _
  · intro k hk _
    rw [hl] at hk
    rw [keep7 (by omega), hk5 k (by omega)]
end Go.Proofs.YtpkmnefbofhjbaaGreat.Ck
namespace Go.Proofs.YtpkmnefbofhjbaaGreat.Ck
open Go Go.Lib Go.RowKit Go.Proofs.YtpkmnefbofhjbaaGreat Go.Maps

theorem TcR.below {w w' : World} {A : Option Addr} {l : List Tf} (h : TcR w A l) (hb : Below w.heap.size w w') : TcR w' A l := fun k t hk => by
  obtain ⟨b, off, e, hl, g0, g1, g2, g3, g4, g5, g6⟩ := h k t hk
  have f := fun i => hb.cell (p := ⟨b, i, none⟩) hl
  exact ⟨b, off, e, Nat.lt_of_lt_of_le hl hb.size, (f _).trans g0, (f _).trans g1, (f _).trans g2, (f _).trans g3, (f _).trans g4, (f _).trans g5, (f _).trans g6⟩
theorem tcR_src {w : World} {ad : Addr} {l : List Tf} (h : TcR w (some ad) l) : ∀ j u, (tcl l)[j]? = some u → w.cell? (ad.add j) = some u := fun j u hj => by
  have hlt := (List.getElem?_eq_some_iff.1 hj).1
  rw [tcl_len] at hlt
  have hk : j / 7 < l.length := by omega
  obtain ⟨t, ht⟩ : ∃ t, l[j / 7]? = some t := ⟨_, List.getElem?_eq_getElem hk⟩
  obtain ⟨b, off, e, hl, g0, g1, g2, g3, g4, g5, g6⟩ := h _ t ht
  obtain rfl : ad = ⟨b, off, none⟩ := Option.some.inj e
  have hat := tcl_at ht (j % 7) (by omega)
  rw [show j / 7 * 7 + j % 7 = j by omega, hj] at hat
  rw [add_none]
  rw [show off + j = off + j / 7 * 7 + j % 7 by omega]
  have hm : j % 7 < 7 := by omega
  generalize j % 7 = i at hat hm
  match i, hm with
  | 0, _ => rw [Nat.add_zero, g0, hat]; rfl
  | 1, _ => rw [g1, hat]; rfl
  | 2, _ => rw [g2, hat]; rfl
  | 3, _ => rw [g3, hat]; rfl
  | 4, _ => rw [g4, hat]; rfl
  | 5, _ => rw [g5, hat]; rfl
  | 6, _ => rw [g6, hat]; rfl
theorem own_litT (w : World) : (w.alloc (.cells #[] 32)).ownsRow w.heap.size 32 7 (.slice (some ⟨w.heap.size, 0, none⟩) 0 0) 0 [] :=
  World.ownsRow_lit w #[] 0 (Nat.le_refl _) (by decide) rfl
set_option maxRecDepth 100000 in
set_option maxHeartbeats 4000000 in
theorem cloneT_any (A : Option Addr) (n c : Nat) (l : List Tf) (w : World) (hA : TcR w A l) (hn : l.length = n) (h0 : A = none → n = 0) (h6 : n ≤ 1000000) :
    Calls Tryz.prog 50 #[.slice A n c] w (TrOut l w) := by
  obtain ⟨i0, hi0, hz0, hz1, hz2⟩ := info_parts trInfo
  have hnil : ∀ (a : Option Addr), (binOp .eql 22 (.slice a n c) (.slice none 0 0)).run Tryz.prog w = .ok (.bool a.isNone) w := fun a => Lib.run_eql_slice_nil w 22 32 a n c 0 0 Tryz.underlying22
  cases A with
  | none =>
    have h0 := h0 rfl
    subst h0
    obtain rfl : l = [] := by simpa using hn
    have hnil1 := hnil none
    clear hA
    go_enter Tryz.func50, Tryz.ntmps50
    go_wp2
    go_ret
    exact ⟨_, rfl, World.ownsRow_nil _ _ _ _, Below.refl _ _⟩
  | some a =>
    have hsrc := tcR_src hA
    have hnil1 := hnil (some a)
    rw [show (some a : Option Addr).isNone = false from rfl] at hnil1
    have HS := Lib.hid hsrc; have HN := Lib.hid hn
    have hb0 : Below w.heap.size w (w.alloc (.cells #[] 32)) := below_one _ _
    have HB0 := Lib.hid hb0
    have HOL := Lib.hid (own_litT w)
    have HSR : Hid (∀ j u, (tcl l)[j]? = some u → (w.alloc (.cells #[] 32)).cell? (a.add j) = some u) := Lib.hid fun j u hj => by
      have hlt := (List.getElem?_eq_some_iff.1 hj).1
      rw [tcl_len] at hlt
      obtain ⟨t, ht⟩ : ∃ t, l[j / 7]? = some t := ⟨_, List.getElem?_eq_getElem (by omega)⟩
      obtain ⟨b, off, e, hl, -⟩ := hA _ t ht
      obtain rfl : a = ⟨b, off, none⟩ := Option.some.inj e
      have := hsrc j u hj
      rw [add_none] at this ⊢
      exact (HB0.out.cell (p := ⟨b, off + j, none⟩) hl).trans this
    clear hsrc hb0 hA hnil
    go_enter Tryz.func50, Tryz.ntmps50
    go_wp2_with (at_builtin; refine wpList_append_own _ rfl (.tmp 5) (.tmp 6) 22 rfl w.heap.size 32 i0 _ 7 128 Tryz.underlying22 hi0 hz0 hz1 hz2 rfl (by decide) _ 0 [] rfl HOL.out a n c (tcl l) rfl (by rw [tcl_len, HN.out]) HSR.out (tcl_one _) (by unfold maxLen; omega) (by omega) (by simp) ?_; intro v' w' g1 g2 _)
    go_ret
    refine ⟨v', rfl, by rw [HN.out]; simpa using g1, Zn.below_grown HB0.out g2 (fun k hk => ?_) (by simp)⟩
    exact (World.ownsRow.lt HOL.out k hk).1
theorem tcl_put : ∀ {l : List Tf} {k : Nat} {t : Tf}, k < l.length → ((((((((tcl l).set (k * 7) (.string t.nm)).set (k * 7 + 1) (.int .i64 t.fr)).set (k * 7 + 2) (.bool t.sp)).set (k * 7 + 3) (.slice t.ZA t.zn t.zc)).set (k * 7 + 4) (.slice t.BA t.bn t.bc)).set (k * 7 + 5) (.slice t.RA t.rn t.rc)).set (k * 7 + 6) (.slice t.DA t.dn t.dc)) = tcl (l.set k t)
  | _ :: _, 0, _, _ => rfl
  | t0 :: l, k + 1, t, h => by
    have ih := tcl_put (l := l) (k := k) (t := t) (by simpa using h)
    rw [List.set_cons_succ]
    have e : ∀ (u : Tf) (m : List Tf), tcl (u :: m) = .string u.nm :: .int .i64 u.fr :: .bool u.sp :: .slice u.ZA u.zn u.zc :: .slice u.BA u.bn u.bc :: .slice u.RA u.rn u.rc :: .slice u.DA u.dn u.dc :: tcl m := fun _ _ => rfl
    rw [e, e, ← ih]
    rw [show (k + 1) * 7 = k * 7 + 7 by omega, show k * 7 + 7 + 1 = k * 7 + 1 + 7 by omega, show k * 7 + 7 + 2 = k * 7 + 2 + 7 by omega, show k * 7 + 7 + 3 = k * 7 + 3 + 7 by omega, show k * 7 + 7 + 4 = k * 7 + 4 + 7 by omega, show k * 7 + 7 + 5 = k * 7 + 5 + 7 by omega, show k * 7 + 7 + 6 = k * 7 + 6 + 7 by omega]
    rfl
theorem own_ask7 {w : World} {base g n cap k : Nat} {e : TypeId} {xs : List Value} (h : w.ownsRow base e 7 (.slice (some ⟨g, 0, none⟩) n cap) n xs) (hk : k < n) {z0 z1 z2 z3 z4 z5 z6 : Value} (y0 : xs[k * 7]? = some z0) (y1 : xs[k * 7 + 1]? = some z1) (y2 : xs[k * 7 + 2]? = some z2) (y3 : xs[k * 7 + 3]? = some z3) (y4 : xs[k * 7 + 4]? = some z4) (y5 : xs[k * 7 + 5]? = some z5) (y6 : xs[k * 7 + 6]? = some z6) (a b c d e' f x : Value) :
    w.cell? ⟨g, k * 7, none⟩ = some z0 ∧ w.frozen? ⟨g, k * 7, none⟩ = false ∧ (w.setCell ⟨g, k * 7, none⟩ a).cell? ⟨g, k * 7 + 1, none⟩ = some z1 ∧ (w.setCell ⟨g, k * 7, none⟩ a).frozen? ⟨g, k * 7 + 1, none⟩ = false ∧ ((w.setCell ⟨g, k * 7, none⟩ a).setCell ⟨g, k * 7 + 1, none⟩ b).cell? ⟨g, k * 7 + 2, none⟩ = some z2 ∧ ((w.setCell ⟨g, k * 7, none⟩ a).setCell ⟨g, k * 7 + 1, none⟩ b).frozen? ⟨g, k * 7 + 2, none⟩ = false ∧ (((w.setCell ⟨g, k * 7, none⟩ a).setCell ⟨g, k * 7 + 1, none⟩ b).setCell ⟨g, k * 7 + 2, none⟩ c).cell? ⟨g, k * 7 + 3, none⟩ = some z3 ∧ (((w.setCell ⟨g, k * 7, none⟩ a).setCell ⟨g, k * 7 + 1, none⟩ b).setCell ⟨g, k * 7 + 2, none⟩ c).frozen? ⟨g, k * 7 + 3, none⟩ = false ∧ ((((w.setCell ⟨g, k * 7, none⟩ a).setCell ⟨g, k * 7 + 1, none⟩ b).setCell ⟨g, k * 7 + 2, none⟩ c).setCell ⟨g, k * 7 + 3, none⟩ d).cell? ⟨g, k * 7 + 4, none⟩ = some z4 ∧ ((((w.setCell ⟨g, k * 7, none⟩ a).setCell ⟨g, k * 7 + 1, none⟩ b).setCell ⟨g, k * 7 + 2, none⟩ c).setCell ⟨g, k * 7 + 3, none⟩ d).frozen? ⟨g, k * 7 + 4, none⟩ = false ∧ (((((w.setCell ⟨g, k * 7, none⟩ a).setCell ⟨g, k * 7 + 1, none⟩ b).setCell ⟨g, k * 7 + 2, none⟩ c).setCell ⟨g, k * 7 + 3, none⟩ d).setCell ⟨g, k * 7 + 4, none⟩ e').cell? ⟨g, k * 7 + 5, none⟩ = some z5 ∧ (((((w.setCell ⟨g, k * 7, none⟩ a).setCell ⟨g, k * 7 + 1, none⟩ b).setCell ⟨g, k * 7 + 2, none⟩ c).setCell ⟨g, k * 7 + 3, none⟩ d).setCell ⟨g, k * 7 + 4, none⟩ e').frozen? ⟨g, k * 7 + 5, none⟩ = false ∧ ((((((w.setCell ⟨g, k * 7, none⟩ a).setCell ⟨g, k * 7 + 1, none⟩ b).setCell ⟨g, k * 7 + 2, none⟩ c).setCell ⟨g, k * 7 + 3, none⟩ d).setCell ⟨g, k * 7 + 4, none⟩ e').setCell ⟨g, k * 7 + 5, none⟩ f).cell? ⟨g, k * 7 + 6, none⟩ = some z6 ∧ ((((((w.setCell ⟨g, k * 7, none⟩ a).setCell ⟨g, k * 7 + 1, none⟩ b).setCell ⟨g, k * 7 + 2, none⟩ c).setCell ⟨g, k * 7 + 3, none⟩ d).setCell ⟨g, k * 7 + 4, none⟩ e').setCell ⟨g, k * 7 + 5, none⟩ f).frozen? ⟨g, k * 7 + 6, none⟩ = false := by
  have h1 := (World.ownsRow.stored h (k * 7) a).1
  have h2 := (World.ownsRow.stored h1 (k * 7 + 1) b).1
  have h3 := (World.ownsRow.stored h2 (k * 7 + 2) c).1
  have h4 := (World.ownsRow.stored h3 (k * 7 + 3) d).1
  have h5 := (World.ownsRow.stored h4 (k * 7 + 4) e').1
  have h6 := (World.ownsRow.stored h5 (k * 7 + 5) f).1
  have h7 := (World.ownsRow.stored h6 (k * 7 + 6) x).1
  exact ⟨by rw [World.ownsRow.cellAt h (k * 7) (by omega)]; exact y0, World.ownsRow.frozenAt h (k * 7), by rw [World.ownsRow.cellAt h1 (k * 7 + 1) (by omega)]; rw [List.getElem?_set_ne (by omega)]; exact y1, World.ownsRow.frozenAt h1 (k * 7 + 1), by rw [World.ownsRow.cellAt h2 (k * 7 + 2) (by omega)]; rw [List.getElem?_set_ne (by omega)]; rw [List.getElem?_set_ne (by omega)]; exact y2, World.ownsRow.frozenAt h2 (k * 7 + 2), by rw [World.ownsRow.cellAt h3 (k * 7 + 3) (by omega)]; rw [List.getElem?_set_ne (by omega)]; rw [List.getElem?_set_ne (by omega)]; rw [List.getElem?_set_ne (by omega)]; exact y3, World.ownsRow.frozenAt h3 (k * 7 + 3), by rw [World.ownsRow.cellAt h4 (k * 7 + 4) (by omega)]; rw [List.getElem?_set_ne (by omega)]; rw [List.getElem?_set_ne (by omega)]; rw [List.getElem?_set_ne (by omega)]; rw [List.getElem?_set_ne (by omega)]; exact y4, World.ownsRow.frozenAt h4 (k * 7 + 4), by rw [World.ownsRow.cellAt h5 (k * 7 + 5) (by omega)]; rw [List.getElem?_set_ne (by omega)]; rw [List.getElem?_set_ne (by omega)]; rw [List.getElem?_set_ne (by omega)]; rw [List.getElem?_set_ne (by omega)]; rw [List.getElem?_set_ne (by omega)]; exact y5, World.ownsRow.frozenAt h5 (k * 7 + 5), by rw [World.ownsRow.cellAt h6 (k * 7 + 6) (by omega)]; rw [List.getElem?_set_ne (by omega)]; rw [List.getElem?_set_ne (by omega)]; rw [List.getElem?_set_ne (by omega)]; rw [List.getElem?_set_ne (by omega)]; rw [List.getElem?_set_ne (by omega)]; rw [List.getElem?_set_ne (by omega)]; exact y6, World.ownsRow.frozenAt h6 (k * 7 + 6)⟩
theorem own_put7 {w : World} {base g n cap k : Nat} {l : List Tf} (h : w.ownsRow base 32 7 (.slice (some ⟨g, 0, none⟩) n cap) n (tcl l)) (hn : l.length = n) (hk : k < n) (t : Tf) :
    (((((((w.setCell ⟨g, k * 7, none⟩ (.string t.nm)).setCell ⟨g, k * 7 + 1, none⟩ (.int .i64 t.fr)).setCell ⟨g, k * 7 + 2, none⟩ (.bool t.sp)).setCell ⟨g, k * 7 + 3, none⟩ (.slice t.ZA t.zn t.zc)).setCell ⟨g, k * 7 + 4, none⟩ (.slice t.BA t.bn t.bc)).setCell ⟨g, k * 7 + 5, none⟩ (.slice t.RA t.rn t.rc)).setCell ⟨g, k * 7 + 6, none⟩ (.slice t.DA t.dn t.dc)).ownsRow base 32 7 (.slice (some ⟨g, 0, none⟩) n cap) n (tcl (l.set k t)) := by
  rw [← tcl_put (by omega)]
  exact (World.ownsRow.stored (World.ownsRow.stored (World.ownsRow.stored (World.ownsRow.stored (World.ownsRow.stored (World.ownsRow.stored (World.ownsRow.stored h _ _).1 _ _).1 _ _).1 _ _).1 _ _).1 _ _).1 _ _).1
end Go.Proofs.YtpkmnefbofhjbaaGreat.Ck
namespace Go.Proofs.YtpkmnefbofhjbaaGreat.Ck
open Go Go.Lib Go.RowKit Go.Proofs.YtpkmnefbofhjbaaGreat Go.Maps

/-- A tariff without rates: name, beginning, where its band lies. -/
structure Pn where
  nm : ByteArray
  fr : Int
  A : Option Addr
  c : Nat
def pl (p : Pn) : Tf := plT p.nm p.fr p.A p.c
theorem tcl_seven {l : List Tf} {k : Nat} {t : Tf} (h : l[k]? = some t) : (tcl l)[k * 7]? = some (.string t.nm) ∧ (tcl l)[k * 7 + 1]? = some (.int .i64 t.fr) ∧ (tcl l)[k * 7 + 2]? = some (.bool t.sp) ∧ (tcl l)[k * 7 + 3]? = some (.slice t.ZA t.zn t.zc) ∧ (tcl l)[k * 7 + 4]? = some (.slice t.BA t.bn t.bc) ∧ (tcl l)[k * 7 + 5]? = some (.slice t.RA t.rn t.rc) ∧ (tcl l)[k * 7 + 6]? = some (.slice t.DA t.dn t.dc) :=
  ⟨tcl_at h 0 (by decide), tcl_at h 1 (by decide), tcl_at h 2 (by decide), tcl_at h 3 (by decide), tcl_at h 4 (by decide), tcl_at h 5 (by decide), tcl_at h 6 (by decide)⟩
/-- The copies so far. -/
structure CpP (g base n c1 k : Nat) (ps ms : List Pn) (w : World) : Prop where
  len : ms.length = n
  own : w.ownsRow base 32 7 (.slice (some ⟨g, 0, none⟩) n c1) n (tcl (ms.map pl))
  all : ∀ (j : Nat) (m p : Pn), ms[j]? = some m → ps[j]? = some p → m.nm = p.nm ∧ m.fr = p.fr ∧ (j < k → PlB (g + 1) w m.A m.c) ∧ (k ≤ j → m = p)
theorem CpP.step {g base n c1 k : Nat} {ps ms : List Pn} {w w' : World} {p : Pn} {A1 : Option Addr} {m1 : Nat} (h : CpP g base n c1 k ps ms w) (hp : ps[k]? = some p) (hk : k < n)
    (ho : w'.ownsRow base 32 7 (.slice (some ⟨g, 0, none⟩) n c1) n (tcl (ms.map pl))) (hs : w.heap.size ≤ w'.heap.size) (hkeep : ∀ b, g + 1 ≤ b → b < w.heap.size → w'.heap[b]? = w.heap[b]?) (hP : PlB (g + 1) w' A1 m1) :
    CpP g base n c1 (k + 1) ps (ms.set k ⟨p.nm, p.fr, A1, m1⟩) (((((((w'.setCell ⟨g, k * 7, none⟩ (.string p.nm)).setCell ⟨g, k * 7 + 1, none⟩ (.int .i64 p.fr)).setCell ⟨g, k * 7 + 2, none⟩ (.bool false)).setCell ⟨g, k * 7 + 3, none⟩ (.slice none 0 0)).setCell ⟨g, k * 7 + 4, none⟩ (.slice A1 1 m1)).setCell ⟨g, k * 7 + 5, none⟩ (.slice none 0 0)).setCell ⟨g, k * 7 + 6, none⟩ (.slice none 0 0)) := by
  have hw : ∀ b, g + 1 ≤ b → (((((((w'.setCell ⟨g, k * 7, none⟩ (.string p.nm)).setCell ⟨g, k * 7 + 1, none⟩ (.int .i64 p.fr)).setCell ⟨g, k * 7 + 2, none⟩ (.bool false)).setCell ⟨g, k * 7 + 3, none⟩ (.slice none 0 0)).setCell ⟨g, k * 7 + 4, none⟩ (.slice A1 1 m1)).setCell ⟨g, k * 7 + 5, none⟩ (.slice none 0 0)).setCell ⟨g, k * 7 + 6, none⟩ (.slice none 0 0)).heap[b]? = w'.heap[b]? := fun b hb => by
    have hne : b ≠ g := by omega
    rw [Below.heap_setCell _ _ _ _ hne, Below.heap_setCell _ _ _ _ hne, Below.heap_setCell _ _ _ _ hne, Below.heap_setCell _ _ _ _ hne, Below.heap_setCell _ _ _ _ hne, Below.heap_setCell _ _ _ _ hne, Below.heap_setCell _ _ _ _ hne]
  have hsz : (((((((w'.setCell ⟨g, k * 7, none⟩ (.string p.nm)).setCell ⟨g, k * 7 + 1, none⟩ (.int .i64 p.fr)).setCell ⟨g, k * 7 + 2, none⟩ (.bool false)).setCell ⟨g, k * 7 + 3, none⟩ (.slice none 0 0)).setCell ⟨g, k * 7 + 4, none⟩ (.slice A1 1 m1)).setCell ⟨g, k * 7 + 5, none⟩ (.slice none 0 0)).setCell ⟨g, k * 7 + 6, none⟩ (.slice none 0 0)).heap.size = w'.heap.size := by
    rw [size_set, size_set, size_set, size_set, size_set, size_set, size_set]
  refine ⟨by rw [List.length_set]; exact h.len, ?_, fun j m q hm hq => ?_⟩
  · rw [List.map_set]
    exact own_put7 ho (by rw [List.length_map]; exact h.len) hk (pl ⟨p.nm, p.fr, A1, m1⟩)
  · by_cases e : k = j
    · subst e
      rw [List.getElem?_set_self (by rw [h.len]; exact hk)] at hm
      obtain rfl := Option.some.inj hm
      obtain rfl : p = q := Option.some.inj (hp.symm.trans hq)
      exact ⟨rfl, rfl, fun _ => hP.keep (by rw [hsz]; exact Nat.le_refl _) (fun b hb _ => hw b hb), fun h => by omega⟩
    · rw [List.getElem?_set_ne e] at hm
      obtain ⟨h1, h2, h3, h4⟩ := h.all j m q hm hq
      exact ⟨h1, h2, fun hj => (h3 (by omega)).keep (by rw [hsz]; exact hs) (fun b hb hl => (hw b hb).trans (hkeep b hb hl)), fun hj => h4 (by omega)⟩
/-- Tariffs without rates that are the copies of others. -/
def PnOut (ps : List Pn) (w : World) (e : Ending) (w' : World) : Prop :=
  ∃ (ms : List Pn) (A' : Option Addr) (c' : Nat), e = .returned (.slice A' ps.length c') ∧ ms.length = ps.length ∧ ps.length ≤ c' ∧ c' ≤ maxLen ∧ TcR w' A' (ms.map pl) ∧ (∀ (j : Nat) (m p : Pn), ms[j]? = some m → ps[j]? = some p → m.nm = p.nm ∧ m.fr = p.fr ∧ PlR w' m.A m.c) ∧ Below w.heap.size w w'
set_option maxRecDepth 100000 in
set_option maxHeartbeats 8000000 in
theorem copiedT_plain (A : Option Addr) (n c : Nat) (ps : List Pn) (w : World) (hA : TcR w A (ps.map pl)) (hn : ps.length = n) (h0 : 0 < n) (hP : ∀ (j : Nat) (p : Pn), ps[j]? = some p → PlR w p.A p.c) (h6 : n ≤ 1000000) :
    Calls Tryz.prog 22 #[.slice A n c, .func (.func 24) #[] #[]] w (PnOut ps w) := by
  have hAn : A ≠ none := by
    obtain ⟨p, hp⟩ : ∃ p, ps[0]? = some p := ⟨_, List.getElem?_eq_getElem (by omega)⟩
    obtain ⟨b, off, e, -⟩ := hA 0 (pl p) (by rw [List.getElem?_map, hp]; rfl)
    rw [e]; simp
  have HC := Lib.hid (cloneT_any A n c (ps.map pl) w hA (by rw [List.length_map]; exact hn) (fun h => absurd h hAn) h6)
  have HCC := Lib.hid (fun (j : Nat) (p : Pn) (h : ps[j]? = some p) W (hW : Below w.heap.size w W) => copied_plain p.nm p.fr p.A p.c W ((hP j p h).below hW))
  have HN := Lib.hid hn
  clear hA hP hAn
  go_enter Tryz.func22, Tryz.ntmps22
  go_wp2_with (go_at_call 50; go_loud ((with_reducible refine HC.out.mono ?_); rintro e w1 ⟨v, rfl, h1, h2⟩; rw [List.length_map, HN.out] at h1; obtain ⟨g, c1, rfl, hc1, hm1, hg1, hg2⟩ := own_formR h1 h0; have HO1 := Lib.hid h1; have HB1 := Lib.hid h2; clear h1 h2))
  have HS1 : Hid (CpP g w.heap.size n c1 0 ps ps w1) := Lib.hid ⟨HN.out, HO1.out, fun j m p h1 h2 => by
    obtain rfl : m = p := Option.some.inj (h1.symm.trans h2)
    exact ⟨rfl, rfl, fun h => absurd h (Nat.not_lt_zero _), fun _ => rfl⟩⟩
  go_loopw [12] (fun iv wr => ∃ (k : Nat) (ms : List Pn), iv = .int .i64 (k : Nat) ∧ k ≤ n ∧ Hid (CpP g w.heap.size n c1 k ps ms wr) ∧ Below w.heap.size w wr) (fun iv _ => (n - RowKit.intOf iv).toNat)
  case atStart => exact ⟨0, ps, rfl, Nat.zero_le _, HS1, HB1.out⟩
  case round =>
    obtain ⟨k, ms, rfl, hk, HS, hb⟩ := hrel
    have hs := hb.size
    by_cases hlt : k < n
    · have hlt' : (k : Int) < (n : Int) := by omega
      obtain ⟨p, hp⟩ : ∃ p, ps[k]? = some p := ⟨_, List.getElem?_eq_getElem (by rw [HN.out]; exact hlt)⟩
      obtain ⟨m, hm⟩ : ∃ m, ms[k]? = some m := ⟨_, List.getElem?_eq_getElem (by rw [HS.out.len]; exact hlt)⟩
      obtain rfl : m = p := (HS.out.all k m p hm hp).2.2.2 (Nat.le_refl _)
      have HC1 := Lib.hid (fun W (h : Below w.heap.size w W) => HCC.out k m hp W h)
      have HPK := Lib.hid hp
      have HY := Lib.hid (tcl_seven (l := ms.map pl) (k := k) (t := pl m) (by rw [List.getElem?_map, hm]; rfl))
      have hgr : g < wr.heap.size := (World.ownsRow.lt HS.out.own g rfl).2
      obtain ⟨nm, fr, A0, c0⟩ := m
      obtain ⟨y0, y1, y2, y3, y4, y5, y6⟩ := HY.out
      have c0' := (World.ownsRow.cellAt HS.out.own (k * 7) (by omega)).trans y0
      have c1' := (World.ownsRow.cellAt HS.out.own (k * 7 + 1) (by omega)).trans y1
      have c2' := (World.ownsRow.cellAt HS.out.own (k * 7 + 2) (by omega)).trans y2
      have c3' := (World.ownsRow.cellAt HS.out.own (k * 7 + 3) (by omega)).trans y3
      have c4' := (World.ownsRow.cellAt HS.out.own (k * 7 + 4) (by omega)).trans y4
      have c5' := (World.ownsRow.cellAt HS.out.own (k * 7 + 5) (by omega)).trans y5
      have c6' := (World.ownsRow.cellAt HS.out.own (k * 7 + 6) (by omega)).trans y6
      simp only [pl, plT] at c0' c1' c2' c3' c4' c5' c6'
      have HB1' : Hid (Below w.heap.size w (wr.alloc (.cells #[.string nm, .int .i64 fr, .bool false, .slice none 0 0, .slice A0 1 c0, .slice none 0 0, .slice none 0 0] 32))) := Lib.hid (hb.alloc hs _)
      have HP1 : Hid (Blk (wr.alloc (.cells #[.string nm, .int .i64 fr, .bool false, .slice none 0 0, .slice A0 1 c0, .slice none 0 0, .slice none 0 0] 32)) wr.heap.size 32 #[.string nm, .int .i64 fr, .bool false, .slice none 0 0, .slice A0 1 c0, .slice none 0 0, .slice none 0 0]) := Lib.hid (Blk.new _ _ _)
      obtain ⟨e0, e1, e2, e3, e4, e5, e6⟩ := seven HP1.out
      obtain ⟨gr, hgr'⟩ : ∃ gr, wr.heap.size = gr := ⟨_, rfl⟩
      rw [hgr'] at HP1 e0 e1 e2 e3 e4 e5 e6
      clear y0 y1 y2 y3 y4 y5 y6 hp hm
      have HOA : Hid ((wr.alloc (.cells #[.string nm, .int .i64 fr, .bool false, .slice none 0 0, .slice A0 1 c0, .slice none 0 0, .slice none 0 0] 32)).ownsRow w.heap.size 32 7 (.slice (some ⟨g, 0, none⟩) n c1) n (tcl (ms.map pl))) := Lib.hid (World.ownsRow.alloc HS.out.own _)
      go_wp2_with (go_at_call 24; go_loud ((with_reducible refine (HC1.out _ HB1'.out).mono ?_); rintro e w3 ⟨A1, m1, rfl, hP, hb3⟩; have HP3 := Lib.hid hP; have HB3 := Lib.hid hb3; have HO3 := Lib.hid (Zn.own_keep HOA.out hb3); clear hP hb3 c0' c1' c2' c3' c4' c5' c6' e0 e1 e2 e3 e4 e5 e6; obtain ⟨y0, y1, y2, y3, y4, y5, y6⟩ := HY.out; obtain ⟨r0, s0, r1, s1, r2, s2, r3, s3, r4, s4, r5, s5, r6, s6⟩ := own_ask7 HO3.out hlt y0 y1 y2 y3 y4 y5 y6 (.string nm) (.int .i64 fr) (.bool false) (.slice none 0 0) (.slice A1 1 m1) (.slice none 0 0) (.slice none 0 0); clear y0 y1 y2 y3 y4 y5 y6))
      clear r0 s0 r1 s1 r2 s2 r3 s3 r4 s4 r5 s5 r6 s6
      go_roundw
      case rel =>
        have hsz : (wr.alloc (.cells #[.string nm, .int .i64 fr, .bool false, .slice none 0 0, .slice A0 1 c0, .slice none 0 0, .slice none 0 0] 32)).heap.size = wr.heap.size + 1 := World.size_alloc _ _
        have h3 := HB3.out.size
        refine ⟨k + 1, _, by go_num, by omega, Lib.hid (HS.out.step (w' := w3) (p := ⟨nm, fr, A0, c0⟩) HPK.out hlt HO3.out (by omega) (fun b hb1 hb2 => ?_) (HP3.out.mono (by omega))), ?_⟩
        · rw [HB3.out.block b (by omega), Below.heap_alloc _ _ _ hb2]
        · have hb4 := HB1'.out.trans (HB3.out.mono (by omega))
          repeat' apply Below.setCell
          all_goals first | exact hb4 | exact hg1
      case measure => simp [RowKit.intOf]; omega
    · obtain rfl : k = n := by omega
      have hd : decide ((k : Int) < (k : Int)) = false := decide_eq_false (by omega)
      go_wp2_with fail
      go_ret
      obtain ⟨A', c', e, h1, h2, h3⟩ := tr_own HS.out.own (by rw [List.length_map]; exact HS.out.len)
      refine ⟨ms, some ⟨g, 0, none⟩, c1, by rw [HN.out]; rfl, by rw [HS.out.len, HN.out], by rw [HN.out]; exact hc1, hm1, ?_, fun j m p e1 e2 => ?_, hb⟩
      · injection e with e1 e2 e3
        rw [e1]; exact h3
      · obtain ⟨x1, x2, x3, -⟩ := HS.out.all j m p e1 e2
        exact ⟨x1, x2, (x3 (by have := (List.getElem?_eq_some_iff.1 e1).1; rw [HS.out.len] at this; exact this)).lies⟩
end Go.Proofs.YtpkmnefbofhjbaaGreat.Ck
namespace Go.Proofs.YtpkmnefbofhjbaaGreat.Ck
open Go Go.Lib Go.RowKit Go.Proofs.YtpkmnefbofhjbaaGreat Go.Maps

set_option maxRecDepth 100000 in
set_option maxHeartbeats 4000000 in
theorem growT_is (n : Nat) (w : World) (h0 : 0 < n) (h6 : n ≤ 1000000) : Calls Tryz.prog 51 #[.slice none 0 0, .int .i64 n] w fun e w' =>
    ∃ g c, e = .returned (.slice (some ⟨g, 0, none⟩) 0 c) ∧ w'.ownsRow w.heap.size 32 7 (.slice (some ⟨g, 0, none⟩) 0 c) 0 [] ∧ Below w.heap.size w w' := by
  obtain ⟨i0, hi0, hz0, hz1, hz2⟩ := info_parts trInfo
  have hrun := fun ty => Lib.run_append_nil_zeros w 22 3 ty 32 i0 _ .i64 .i64 Tryz.underlying22 Tryz.underlying3 hi0 hz0 n h0 (by omega) (by omega) (by rw [hz2]; omega)
  have hge := grownCap_ge w n 0 32
  have hle := grownCap_le_maxLen w n 0 32 (by unfold maxLen; omega)
  have hown := World.ownsRow_made (base := w.heap.size) (e := 32) (size := 7) w.drew (Builtin.zeroCells (Value.agg tf0).cells n ++ Builtin.zeroCells (Value.agg tf0).cells (grownCap w n 0 32 - n)) (grownCap w n 0 32) (Nat.le_refl _) hle (by
    have hz : (Value.agg tf0).cells.size = 7 := rfl
    simp [Builtin.zeroCells, hz]; omega)
  have hB : Below w.heap.size w (w.drew.alloc (.cells (Builtin.zeroCells (Value.agg tf0).cells n ++ Builtin.zeroCells (Value.agg tf0).cells (grownCap w n 0 32 - n)) 32)) := (below_dN (Below.refl _ w) 1).alloc (Nat.le_refl _) _
  obtain ⟨NC, hNC⟩ : ∃ NC, grownCap w n 0 32 = NC := ⟨_, rfl⟩
  rw [hNC] at hge hle hrun hown hB
  obtain ⟨W1, hW1⟩ : ∃ W1, w.drew.alloc (.cells (Builtin.zeroCells (Value.agg tf0).cells n ++ Builtin.zeroCells (Value.agg tf0).cells (NC - n)) 32) = W1 := ⟨_, rfl⟩
  have hds : w.drew.heap.size = w.heap.size := rfl
  rw [hW1] at hrun hown hB
  rw [hds] at hown
  obtain ⟨G, hG⟩ : ∃ G, w.heap.size = G := ⟨_, rfl⟩
  rw [hG] at hrun hown
  have hle2 := hle
  unfold maxLen at hle2
  have HR := Lib.hid hrun; have HO := Lib.hid hown; have HB := Lib.hid hB
  have hn1 : decide ((n : Int) < 0) = false := decide_eq_false (by omega)
  have hn2 : decide ((0 : Int) < (n : Int)) = true := decide_eq_true (by omega)
  clear hrun hown hB hW1 hle hNC
  go_enter Tryz.func51, Tryz.ntmps51
  go_wp2_with (at_builtin; go_loud (refine Lib.wpList_append_run _ rfl (.tmp 20) (.tmp 21) 22 3 rfl _ _ rfl rfl _ _ (HR.out _) ?_))
  go_ret
  exact ⟨G, NC, rfl, by rw [hG]; exact HO.out, HB.out⟩
end Go.Proofs.YtpkmnefbofhjbaaGreat.Ck
namespace Go.Proofs.YtpkmnefbofhjbaaGreat.Ck
open Go Go.Lib Go.RowKit Go.Proofs.YtpkmnefbofhjbaaGreat Go.Maps

/-- How many there are in the first parts, and which. -/
def sm (n : Nat → Nat) : Nat → Nat
  | 0 => 0
  | k + 1 => sm n k + n k
def pre (l : Nat → List Tf) : Nat → List Tf
  | 0 => []
  | k + 1 => pre l k ++ l k
theorem sm_le {n : Nat → Nat} {k m : Nat} (h : k ≤ m) : sm n k ≤ sm n m := by
  induction m with
  | zero => obtain rfl : k = 0 := by omega
            exact Nat.le_refl _
  | succ m ih =>
    rcases Nat.lt_or_ge m k with h1 | h1
    · obtain rfl : k = m + 1 := by omega
      exact Nat.le_refl _
    · exact Nat.le_trans (ih h1) (Nat.le_add_right _ _)
theorem pre_len {n : Nat → Nat} {l : Nat → List Tf} {m : Nat} (h : ∀ k, k < m → (l k).length = n k) : ∀ k, k ≤ m → (pre l k).length = sm n k
  | 0, _ => rfl
  | k + 1, hk => by show (pre l k ++ l k).length = sm n k + n k; rw [List.length_append, pre_len h k (by omega), h k (by omega)]
set_option maxRecDepth 100000 in
set_option maxHeartbeats 8000000 in
theorem concatT_is (A : Nat → Option Addr) (n c : Nat → Nat) (l : Nat → List Tf) (p m : Nat) (w : World) (hp : p < w.heap.size) (hc : ∀ k, k < m → w.cell? ⟨p, k, none⟩ = some (.slice (A k) (n k) (c k))) (hA : ∀ k, k < m → TcR w (A k) (l k)) (hn : ∀ k, k < m → (l k).length = n k) (hA0 : ∀ k, k < m → A k = none → n k = 0)
    (h0 : 0 < sm n m) (h6 : sm n m ≤ 1000000) (hm : m ≤ 1000000) :
    Calls Tryz.prog 23 #[.slice (some ⟨p, 0, none⟩) m m] w fun e w' => ∃ v, e = .returned v ∧ w'.ownsRow w.heap.size 32 7 v (sm n m) (tcl (pre l m)) ∧ Below w.heap.size w w' := by
  obtain ⟨i0, hi0, hz0, hz1, hz2⟩ := info_parts trInfo
  have HC := Lib.hid hc; have HA := Lib.hid hA; have HN := Lib.hid hn; have HA0 := Lib.hid hA0
  have HG := Lib.hid (growT_is (sm n m) w h0 h6)
  clear hc hA hn hA0
  go_enter Tryz.func23, Tryz.ntmps23
  go_wp2_with fail
  go_loopw [3, 11] (fun s iv wr => ∃ k : Nat, s = .int .i64 (sm n k : Nat) ∧ iv = .int .i64 (k : Nat) ∧ k ≤ m ∧ w = wr) (fun _ iv _ => (m - RowKit.intOf iv).toNat)
  case atStart => exact ⟨0, rfl, rfl, Nat.zero_le _, rfl⟩
  case round =>
    obtain ⟨k, rfl, rfl, hk, rfl⟩ := hrel
    by_cases hlt : k < m
    · have hlt' : (k : Int) < (m : Int) := by omega
      have c0 := HC.out k hlt
      have hs1 : sm n (k + 1) ≤ sm n m := sm_le (by omega)
      have hs2 : sm n (k + 1) = sm n k + n k := rfl
      have hneg : decide ((sm n k : Int) + (n k : Int) < 0) = false := decide_eq_false (by omega)
      go_wp2_with fail
      go_roundw
      case rel => exact ⟨k + 1, by go_num, by go_num, by omega, trivial⟩
      case measure => simp [RowKit.intOf]; omega
    · obtain rfl : k = m := by omega
      have hd : decide ((k : Int) < (k : Int)) = false := decide_eq_false (by omega)
      go_wp2_with (go_at_call 51; go_loud ((with_reducible refine HG.out.mono ?_); rintro e w1 ⟨g, c1, rfl, h1, h2⟩; have HO1 := Lib.hid h1; have HB1 := Lib.hid h2; clear h1 h2))
      go_loopw [6, 27] (fun v iv wr => ∃ (j : Nat) (u : Value), u = v ∧ iv = .int .i64 (j : Nat) ∧ j ≤ k ∧ Hid (wr.ownsRow w.heap.size 32 7 u (sm n j) (tcl (pre l j))) ∧ Below w.heap.size w wr) (fun _ iv _ => (k - RowKit.intOf iv).toNat)
      case atStart => exact ⟨0, _, rfl, rfl, Nat.zero_le _, HO1, HB1.out⟩
      case round =>
        obtain ⟨j, u, rfl, rfl, hj, HO, hb⟩ := hrel
        have hs := hb.size
        by_cases hlt2 : j < k
        · have hlt2' : (j : Int) < (k : Int) := by omega
          have c0 := (hb.cell (p := ⟨p, j, none⟩) hp).trans (HC.out j hlt2)
          have hs1 : sm n (j + 1) ≤ sm n k := sm_le (by omega)
          have hs2 : sm n (j + 1) = sm n j + n j := rfl
          have HSR := Lib.hid ((HA.out j hlt2).below hb)
          go_wp2_with (at_builtin; go_loud (refine Ap.wpList_append_any rfl (.tmp 31) (.tmp 32) 22 rfl w.heap.size 32 i0 _ 7 128 Tryz.underlying22 hi0 hz0 hz1 hz2 rfl (by decide) _ _ (tcl (pre l j)) rfl HO.out (A j) (n j) (c j) (tcl (l j)) rfl (by rw [tcl_len, HN.out j hlt2]) (HA0.out j hlt2) (fun ad had => tcR_src (had ▸ HSR.out)) (tcl_one _) (by unfold maxLen; omega) (by omega) (by omega) ?_; intro v4 w4 x1 x2; have HO4 := Lib.hid x1; have hb4 := Zn.below_grown hb x2 (fun q hq => (World.ownsRow.lt HO.out q hq).1) hs; clear x1 x2))
          go_roundw
          case rel => exact ⟨j + 1, _, rfl, by go_num, by omega, Lib.hid (by show World.ownsRow _ _ _ _ _ (sm n j + n j) (tcl (pre l j ++ l j)); rw [tcl_app]; exact HO4.out), hb4⟩
          case measure => simp [RowKit.intOf]; omega
        · obtain rfl : j = k := by omega
          have hd2 : decide ((j : Int) < (j : Int)) = false := decide_eq_false (by omega)
          go_wp2_with fail
          go_ret
          exact ⟨_, rfl, HO.out, hb⟩
end Go.Proofs.YtpkmnefbofhjbaaGreat.Ck
namespace Go.Proofs.YtpkmnefbofhjbaaGreat.Ck
open Go Go.Lib Go.RowKit Go.Proofs.YtpkmnefbofhjbaaGreat Go.Maps

def bas : ByteArray := ⟨#[98, 97, 115, 105, 99]⟩
theorem tls_pl {w : World} {A : Option Addr} {ms : List Pn} (h : TcR w A (ms.map pl)) (hm : ∀ (j : Nat) (m : Pn), ms[j]? = some m → PlR w m.A m.c ∧ m.nm.size ≤ maxLen) : TLs w A (ms.map pl) := fun k t hk => by
  obtain ⟨b, off, e, hl, g0, g1, g2, g3, g4, g5, g6⟩ := h k t hk
  rw [List.getElem?_map] at hk
  cases hq : ms[k]? with
  | none => rw [hq] at hk; cases hk
  | some m =>
    rw [hq] at hk
    obtain rfl : pl m = t := Option.some.inj hk
    obtain ⟨x1, x2⟩ := hm k m hq
    exact ⟨b, off, e, hl, ⟨g0, g1, g2, g3, g4, g5, g6⟩, plT_N x1 x2, plT_R x1, plT_F⟩
theorem bas_ok (A : Option Addr) (c : Nat) : tarE (plT ⟨#[98, 97, 115, 105, 99]⟩ 0 A c) = 0 := by rfl
theorem bas_ok2 (A : Option Addr) (c : Nat) : tarE (plT ⟨#[98, 97, 115, 105, 99]⟩ 1000 A c) = 0 := by rfl
theorem chk_one (A : Option Addr) (c : Nat) : chkT [pl ⟨⟨#[98, 97, 115, 105, 99]⟩, 0, A, c⟩] = 0 := by
  rfl
theorem chk_ba (A B : Option Addr) (c d : Nat) : chkT [pl ⟨⟨#[98]⟩, 0, A, c⟩, pl ⟨⟨#[97]⟩, 0, B, d⟩] = 9 := by
  have hc : cmpB ⟨#[97]⟩ ⟨#[98]⟩ = -1 := by decide +kernel
  obtain ⟨L, hL⟩ : ∃ L, [pl ⟨⟨#[98]⟩, 0, A, c⟩, pl ⟨⟨#[97]⟩, 0, B, d⟩] = L := ⟨_, rfl⟩
  have e0 : L[0]? = some (pl ⟨⟨#[98]⟩, 0, A, c⟩) := by rw [← hL]; rfl
  have e1 : L[1]? = some (pl ⟨⟨#[97]⟩, 0, B, d⟩) := by rw [← hL]; rfl
  have h0 : chkAt L 0 = 0 := chkAt_first e0 rfl
  have h1 : chkAt L 1 = 9 := by
    rw [chkAt_next e1 rfl (by decide), ordF_at e0]
    have : ordT (pl ⟨⟨#[97]⟩, 0, B, d⟩).nm (pl ⟨⟨#[97]⟩, 0, B, d⟩).fr (pl ⟨⟨#[98]⟩, 0, A, c⟩) = -1 := by
      show orI (cmpB ⟨#[97]⟩ ⟨#[98]⟩) _ = -1
      rw [hc]; rfl
    rw [this]; decide
  have hl : L.length = 2 := by rw [← hL]; rfl
  rw [hL]
  unfold chkT
  rw [hl, if_neg (by decide)]
  show fstN (chkAt L) 0 2 = 9
  simp [fstN, h0, h1]
end Go.Proofs.YtpkmnefbofhjbaaGreat.Ck
namespace Go.Proofs.YtpkmnefbofhjbaaGreat.Ck
open Go Go.Lib Go.RowKit Go.Proofs.YtpkmnefbofhjbaaGreat Go.Maps

/-- Behind the tariff's own block. -/
def RpS (w : World) (b0 : Nat) (A1 : Option Addr) (c1 : Nat) (W : World) : Prop := Below w.heap.size w W ∧ Blk W b0 32 #[.string ⟨#[98, 97, 115, 105, 99]⟩, .int .i64 1000, .bool false, .slice none 0 0, .slice A1 1 c1, .slice none 0 0, .slice none 0 0]
theorem RpS.keep {w W W' : World} {b0 c1 : Nat} {A1 : Option Addr} (h : RpS w b0 A1 c1 W) (hb : Below W.heap.size W W') : RpS w b0 A1 c1 W' := ⟨h.1.trans (hb.mono h.1.size), h.2.below hb h.2.lt⟩
theorem RpS.drew {w W : World} {b0 c1 : Nat} {A1 : Option Addr} (h : RpS w b0 A1 c1 W) : RpS w b0 A1 c1 W.drew := ⟨below_dN h.1 1, h.2.drew⟩
theorem RpS.bel {w W : World} {b0 c1 : Nat} {A1 : Option Addr} (h : RpS w b0 A1 c1 W) : Below w.heap.size w W := h.1
theorem RpS.cells {w w' : World} {b0 c1 : Nat} {A1 : Option Addr} (h : RpS w b0 A1 c1 w') : (w'.cell? ⟨b0, 0, none⟩ = some (.string ⟨#[98, 97, 115, 105, 99]⟩) ∧ w'.cell? ⟨b0, 1, none⟩ = some (.int .i64 1000) ∧ w'.cell? ⟨b0, 2, none⟩ = some (.bool false) ∧ w'.cell? ⟨b0, 3, none⟩ = some (.slice none 0 0) ∧ w'.cell? ⟨b0, 4, none⟩ = some (.slice A1 1 c1) ∧ w'.cell? ⟨b0, 5, none⟩ = some (.slice none 0 0) ∧ w'.cell? ⟨b0, 6, none⟩ = some (.slice none 0 0)) := seven h.2
set_option maxHeartbeats 4000000 in
theorem orE_any (x y : Int) (g : Nat) (t : TypeId) (w : World) (h : Blk w g t #[.int .i64 x, .int .i64 y]) :
    Calls Tryz.prog 20 #[.slice (some ⟨g, 0, none⟩) 2 2] w fun e w' => e = .returned (.int .i64 (orI x y)) ∧ w' = w := by
  have c0 := h.cell 0
  have c1 := h.cell 1
  clear h
  go_enter Tryz.func20, Tryz.ntmps20
  go_wp2_with fail
  go_loopw [8] (fun iv wr => wr = w ∧ (iv = .int .i64 0 ∨ (iv = .int .i64 1 ∧ x = 0) ∨ (iv = .int .i64 2 ∧ x = 0 ∧ y = 0))) (fun iv _ => 2 - (RowKit.intOf iv).toNat)
  case atStart => exact ⟨rfl, .inl rfl⟩
  case round =>
    obtain ⟨rfl, hr⟩ := hrel
    rcases hr with rfl | ⟨rfl, rfl⟩ | ⟨rfl, rfl, rfl⟩
    · by_cases hx : x = 0
      · subst hx
        go_wp2_with fail
        go_roundw
        case rel => simp
        case measure => simp [RowKit.intOf]
      · have HR : Hid (orI x y = x) := Lib.hid (if_neg hx)
        have hq : (x != 0) = true := by simp [hx]
        clear hx
        go_wp2_with fail
        go_ret
        exact ⟨ret_i HR.out.symm, rfl⟩
    · by_cases hx : y = 0
      · subst hx
        go_wp2_with fail
        go_roundw
        case rel => simp
        case measure => simp [RowKit.intOf]
      · have HR : Hid (orI 0 y = y) := Lib.hid (if_pos rfl)
        have hq : (y != 0) = true := by simp [hx]
        clear hx
        go_wp2_with fail
        go_ret
        exact ⟨ret_i HR.out.symm, rfl⟩
    · go_wp2_with fail
      go_ret
      exact ⟨rfl, rfl⟩
theorem place_bas (A : Option Addr) (c : Nat) : findW (ordF ⟨#[98, 97, 115, 105, 99]⟩ 1000 [pl ⟨⟨#[98, 97, 115, 105, 99]⟩, 0, A, c⟩]) 0 1 = 1 := by
  have h : ordF ⟨#[98, 97, 115, 105, 99]⟩ 1000 [pl ⟨⟨#[98, 97, 115, 105, 99]⟩, 0, A, c⟩] 0 = 1 := by
    show orI (cmpB ⟨#[98, 97, 115, 105, 99]⟩ ⟨#[98, 97, 115, 105, 99]⟩) (cmpI 1000 0) = 1
    rw [show cmpB ⟨#[98, 97, 115, 105, 99]⟩ ⟨#[98, 97, 115, 105, 99]⟩ = 0 by decide +kernel]; rfl
  rw [findW_up (by decide) (by show 0 < ordF _ _ _ 0; rw [h]; decide)]
  exact findW_end (by decide)
theorem two_pl {w : World} {p q : Pn} (h1 : PlR w p.A p.c) (h2 : PlR w q.A q.c) : ∀ (j : Nat) (m : Pn), [p, q][j]? = some m → PlR w m.A m.c := fun j m hj => by
  match j, hj with
  | 0, hj => obtain rfl := Option.some.inj hj; exact h1
  | 1, hj => obtain rfl := Option.some.inj hj; exact h2
def RpOut (w : World) (e : Ending) (w' : World) : Prop :=
  ∃ A c A0 c0 A1 c1, e = .returned (.tuple #[.slice A 2 c, .int .i64 0]) ∧ TLs w' A [pl ⟨⟨#[98, 97, 115, 105, 99]⟩, 0, A0, c0⟩, pl ⟨⟨#[98, 97, 115, 105, 99]⟩, 1000, A1, c1⟩] ∧ 2 ≤ c ∧ c ≤ maxLen ∧ PlR w' A0 c0 ∧ PlR w' A1 c1 ∧ Below w.heap.size w w'
set_option maxRecDepth 100000 in
set_option maxHeartbeats 16000000 in
theorem replace_is (b : Nat) (A0 A1 : Option Addr) (c0 c1 : Nat) (w : World) (hA : TLs w (some ⟨b, 0, none⟩) [pl ⟨⟨#[98, 97, 115, 105, 99]⟩, 0, A0, c0⟩]) (h0 : PlR w A0 c0) (h1 : PlR w A1 c1) :
    Calls Tryz.prog 9 #[.slice (some ⟨b, 0, none⟩) 1 1, .agg #[.string ⟨#[98, 97, 115, 105, 99]⟩, .int .i64 1000, .bool false, .slice none 0 0, .slice A1 1 c1, .slice none 0 0, .slice none 0 0]] w (RpOut w) := by
  have hz : (⟨#[98, 97, 115, 105, 99]⟩ : ByteArray).size ≤ maxLen := by decide
  obtain ⟨b0, hb0⟩ : ∃ b, w.heap.size = b := ⟨_, rfl⟩
  obtain ⟨L, hL⟩ : ∃ L, w.alloc (.cells #[.string ⟨#[98, 97, 115, 105, 99]⟩, .int .i64 1000, .bool false, .slice none 0 0, .slice A1 1 c1, .slice none 0 0, .slice none 0 0] 32) = L := ⟨_, rfl⟩
  have ST : Hid (RpS w b0 A1 c1 L) := Lib.hid ⟨hL ▸ below_one w _, hL ▸ hb0 ▸ Blk.new w _ _⟩
  have HCH := Lib.hid (fun W (h : Below w.heap.size w W) => checkT_is (chk_one A0 c0) (some ⟨b, 0, none⟩) 1 1 W (hA.below h) rfl (Nat.le_refl _) (by decide))
  have HTA : Hid (∀ W, Below w.heap.size w W → Calls Tryz.prog 16 #[.agg #[.string ⟨#[98, 97, 115, 105, 99]⟩, .int .i64 1000, .bool false, .slice none 0 0, .slice A1 1 c1, .slice none 0 0, .slice none 0 0]] W fun e w' => e = .returned (.int .i64 0) ∧ Below W.heap.size W w') := Lib.hid (fun W (h : Below w.heap.size w W) => tariff_is (bas_ok2 A1 c1) W (plT_N (h1.below h) hz) plT_F (plT_R (h1.below h)))
  have HPL : Hid (∀ W, Below w.heap.size w W → Calls Tryz.prog 21 #[.slice (some ⟨b, 0, none⟩) 1 1, .string ⟨#[98, 97, 115, 105, 99]⟩, .int .i64 1000] W fun e w' => e = .returned (.tuple #[.int .i64 1, .bool false]) ∧ Below W.heap.size W w') := Lib.hid (fun W (h : Below w.heap.size w W) => placeT_is (nm := ⟨#[98, 97, 115, 105, 99]⟩) (fr := 1000) (some ⟨b, 0, none⟩) 1 1 (by decide) W (hA.below h) rfl (Nat.le_refl _) (by decide) (place_bas A0 c0) (q := false) rfl)
  have HA := Lib.hid hA; have H0 := Lib.hid h0; have H1 := Lib.hid h1; have HB0 := Lib.hid hb0
  have HOR : Hid (∀ g (ty : TypeId) W, Blk W g ty #[.int .i64 0, .int .i64 0] → Calls Tryz.prog 20 #[.slice (some ⟨g, 0, none⟩) 2 2] W fun e w' => e = .returned (.int .i64 0) ∧ w' = W) := Lib.hid (fun g (ty : TypeId) W (h : Blk W g ty #[.int .i64 0, .int .i64 0]) => orE_any 0 0 g ty W h)
  obtain ⟨k0, k1, k2, k3, k4, k5, k6⟩ := ST.out.cells
  have STD := Lib.hid ST.out.drew
  clear hA h0 h1
  go_enter Tryz.func9, Tryz.ntmps9
  go_wp2_with fail
  clear hL hb0
  go_region_held3 (fun w' => (w'.cell? ⟨b0, 0, none⟩ = some (.string ⟨#[98, 97, 115, 105, 99]⟩) ∧ w'.cell? ⟨b0, 1, none⟩ = some (.int .i64 1000) ∧ w'.cell? ⟨b0, 2, none⟩ = some (.bool false) ∧ w'.cell? ⟨b0, 3, none⟩ = some (.slice none 0 0) ∧ w'.cell? ⟨b0, 4, none⟩ = some (.slice A1 1 c1) ∧ w'.cell? ⟨b0, 5, none⟩ = some (.slice none 0 0) ∧ w'.cell? ⟨b0, 6, none⟩ = some (.slice none 0 0)))
    (first | exact ST.out.cells | exact STD.out.cells | go_keep)
    (first
      | (go_at_call 7; go_loud ((with_reducible refine (HCH.out _ STD.out.bel).mono ?_); rintro e wn ⟨rfl, hb⟩; replace ST := Lib.hid (STD.out.keep hb); clear hb))
      | (go_at_call 16; go_loud ((with_reducible refine (HTA.out _ ST.out.bel).mono ?_); rintro e wn ⟨rfl, hb⟩; replace ST := Lib.hid (ST.out.keep hb); clear hb))
      | (go_at_call 20; go_loud ((refine (HOR.out _ _ _ (Blk.new wn 25 #[.int .i64 0, .int .i64 0])).mono ?_); rintro e w1 ⟨rfl, rfl⟩; replace ST := Lib.hid (ST.out.keep (below_one wn (.cells #[.int .i64 0, .int .i64 0] 25))))))
  have STE := Lib.hid ST.out.drew
  obtain ⟨k0, k1, k2, k3, k4, k5, k6⟩ := ST.out.cells
  go_wp2_with (first
    | (go_at_call 21; go_loud ((with_reducible refine (HPL.out _ ST.out.bel).mono ?_); rintro e w5 ⟨rfl, hb⟩; have ST5 := Lib.hid (ST.out.keep hb); clear hb k0 k1 k2 k3 k4 k5 k6; obtain ⟨k0, k1, k2, k3, k4, k5, k6⟩ := ST5.out.cells)))
  go_quiet (fail)
  have ST6 : Hid (RpS w b0 A1 c1 (w5.drewN nq)) := Lib.hid ⟨below_dN ST5.out.bel nq, ST5.out.2.drewN nq⟩
  obtain ⟨W6, hW6⟩ : ∃ W6, w5.drewN nq = W6 := ⟨_, rfl⟩
  rw [hW6] at ST6 ⊢
  clear k0 k1 k2 k3 k4 k5 k6 hW6
  obtain ⟨k0, k1, k2, k3, k4, k5, k6⟩ := ST6.out.cells
  obtain ⟨G, hG⟩ : ∃ G, W6.heap.size = G := ⟨_, rfl⟩
  have hBW : Below w.heap.size w ((W6.alloc (.cells #[.string ⟨#[98, 97, 115, 105, 99]⟩, .int .i64 1000, .bool false, .slice none 0 0, .slice A1 1 c1, .slice none 0 0, .slice none 0 0] 32)).alloc (.cells #[.slice (some ⟨b, 0, none⟩) 1 1, .slice (some ⟨G, 0, none⟩) 1 1, .slice (some ⟨b, 0, none⟩) 0 0] 22)) := (ST6.out.bel.alloc ST6.out.bel.size _).alloc (by rw [World.size_alloc]; exact Nat.le_succ_of_le ST6.out.bel.size) _
  have hbt : Blk ((W6.alloc (.cells #[.string ⟨#[98, 97, 115, 105, 99]⟩, .int .i64 1000, .bool false, .slice none 0 0, .slice A1 1 c1, .slice none 0 0, .slice none 0 0] 32)).alloc (.cells #[.slice (some ⟨b, 0, none⟩) 1 1, .slice (some ⟨G, 0, none⟩) 1 1, .slice (some ⟨b, 0, none⟩) 0 0] 22)) G 32 #[.string ⟨#[98, 97, 115, 105, 99]⟩, .int .i64 1000, .bool false, .slice none 0 0, .slice A1 1 c1, .slice none 0 0, .slice none 0 0] := hG ▸ (Blk.new W6 _ _).alloc _
  have hbp : Blk ((W6.alloc (.cells #[.string ⟨#[98, 97, 115, 105, 99]⟩, .int .i64 1000, .bool false, .slice none 0 0, .slice A1 1 c1, .slice none 0 0, .slice none 0 0] 32)).alloc (.cells #[.slice (some ⟨b, 0, none⟩) 1 1, .slice (some ⟨G, 0, none⟩) 1 1, .slice (some ⟨b, 0, none⟩) 0 0] 22)) (G + 1) 22 #[.slice (some ⟨b, 0, none⟩) 1 1, .slice (some ⟨G, 0, none⟩) 1 1, .slice (some ⟨b, 0, none⟩) 0 0] := by
    have h := Blk.new (W6.alloc (.cells #[.string ⟨#[98, 97, 115, 105, 99]⟩, .int .i64 1000, .bool false, .slice none 0 0, .slice A1 1 c1, .slice none 0 0, .slice none 0 0] 32)) 22 #[.slice (some ⟨b, 0, none⟩) 1 1, .slice (some ⟨G, 0, none⟩) 1 1, .slice (some ⟨b, 0, none⟩) 0 0]
    rw [World.size_alloc, hG] at h
    exact h
  obtain ⟨W7, hW7⟩ : ∃ W7, (W6.alloc (.cells #[.string ⟨#[98, 97, 115, 105, 99]⟩, .int .i64 1000, .bool false, .slice none 0 0, .slice A1 1 c1, .slice none 0 0, .slice none 0 0] 32)).alloc (.cells #[.slice (some ⟨b, 0, none⟩) 1 1, .slice (some ⟨G, 0, none⟩) 1 1, .slice (some ⟨b, 0, none⟩) 0 0] 22) = W7 := ⟨_, rfl⟩
  rw [hW7] at hBW hbt hbp
  have hcon : Calls Tryz.prog 23 #[.slice (some ⟨G + 1, 0, none⟩) 3 3] W7 fun e w' => ∃ v, e = .returned v ∧ w'.ownsRow W7.heap.size 32 7 v 2 (tcl ([⟨⟨#[98, 97, 115, 105, 99]⟩, 0, A0, c0⟩, ⟨⟨#[98, 97, 115, 105, 99]⟩, 1000, A1, c1⟩].map pl)) ∧ Below W7.heap.size W7 w' :=
    concatT_is (fun k => match k with | 0 => some ⟨b, 0, none⟩ | 1 => some ⟨G, 0, none⟩ | _ => some ⟨b, 0, none⟩) (fun k => match k with | 0 => 1 | 1 => 1 | _ => 0) (fun k => match k with | 0 => 1 | 1 => 1 | _ => 0) (fun k => match k with | 0 => [pl ⟨⟨#[98, 97, 115, 105, 99]⟩, 0, A0, c0⟩] | 1 => [pl ⟨⟨#[98, 97, 115, 105, 99]⟩, 1000, A1, c1⟩] | _ => []) (G + 1) 3 W7 hbp.lt
      (fun k hk => match k, hk with
        | 0, _ => hbp.cell 0
        | 1, _ => hbp.cell 1
        | 2, _ => hbp.cell 2)
      (fun k hk => match k, hk with
        | 0, _ => fun j t hj => by
          obtain ⟨b', off, e, hl, hc, -⟩ := (HA.out.below hBW) j t hj
          exact ⟨b', off, e, hl, hc⟩
        | 1, _ => fun j t hj => by
          match j, hj with
          | 0, hj =>
            obtain rfl : pl ⟨⟨#[98, 97, 115, 105, 99]⟩, 1000, A1, c1⟩ = t := Option.some.inj hj
            exact ⟨G, 0, rfl, hbt.lt, hbt.cell 0, hbt.cell 1, hbt.cell 2, hbt.cell 3, hbt.cell 4, hbt.cell 5, hbt.cell 6⟩
        | 2, _ => fun j t hj => by cases hj)
      (fun k hk => match k, hk with
        | 0, _ => rfl
        | 1, _ => rfl
        | 2, _ => rfl)
      (fun k hk => match k, hk with
        | 0, _ => fun h => by cases h
        | 1, _ => fun h => by cases h
        | 2, _ => fun h => by cases h) (by decide) (by decide) (by decide)
  have HCON := Lib.hid hcon; have HBW := Lib.hid hBW
  clear hcon hbt hbp hBW
  go_wp2_with (first
    | (go_at_call 23; go_loud ((with_reducible refine HCON.out.mono ?_); rintro e w8 ⟨v, rfl, h1, h2⟩; obtain ⟨g, cc, rfl, q1, q2, q3, q4⟩ := own_formR h1 (by decide); obtain ⟨A', c', e', -, -, h3⟩ := tr_own h1 rfl; have HTC : Hid (TcR w8 (some ⟨g, 0, none⟩) ([⟨⟨#[98, 97, 115, 105, 99]⟩, 0, A0, c0⟩, ⟨⟨#[98, 97, 115, 105, 99]⟩, 1000, A1, c1⟩].map pl)) := Lib.hid (by injection e' with e1 e2 e3; rw [e1]; exact h3); have HB8 : Hid (Below w.heap.size w w8) := Lib.hid (HBW.out.trans (h2.mono HBW.out.size)); clear h1 h2 h3))
    | (go_at_call 22; go_loud ((with_reducible refine (copiedT_plain (some ⟨g, 0, none⟩) 2 cc [⟨⟨#[98, 97, 115, 105, 99]⟩, 0, A0, c0⟩, ⟨⟨#[98, 97, 115, 105, 99]⟩, 1000, A1, c1⟩] w8 HTC.out rfl (by decide) (two_pl (p := ⟨⟨#[98, 97, 115, 105, 99]⟩, 0, A0, c0⟩) (q := ⟨⟨#[98, 97, 115, 105, 99]⟩, 1000, A1, c1⟩) (H0.out.below HB8.out) (H1.out.below HB8.out)) (by decide)).mono ?_); rintro e w9 ⟨ms, A', c', rfl, hl, hc, hm, ht, hall, hb⟩; have HR := Lib.hid (And.intro hl (And.intro hc (And.intro hm (And.intro ht (And.intro hall hb))))); clear hl hc hm ht hall hb)))
  go_ret2
  obtain ⟨hl, hc, hm, ht, hall, hb⟩ := HR.out
  match ms, hl, ht, hall with
  | [⟨n0, f0, B0, d0⟩, ⟨n1, f1, B1, d1⟩], _, ht, hall =>
    obtain ⟨e1, e2, x0⟩ := hall 0 _ _ rfl rfl
    obtain ⟨e3, e4, x1⟩ := hall 1 _ _ rfl rfl
    simp only at e1 e2 e3 e4 x0 x1
    subst e1; subst e2; subst e3; subst e4
    refine ⟨A', c', B0, d0, B1, d1, rfl, tls_pl ht (fun j m hj => ?_), hc, hm, x0, x1, HB8.out.trans (hb.mono HB8.out.size)⟩
    match j, hj with
    | 0, hj => obtain rfl := Option.some.inj hj; exact ⟨x0, hz⟩
    | 1, hj => obtain rfl := Option.some.inj hj; exact ⟨x1, hz⟩
end Go.Proofs.YtpkmnefbofhjbaaGreat.Ck
namespace Go.Proofs.YtpkmnefbofhjbaaGreat.Ck
open Go Go.Lib Go.RowKit Go.Proofs.YtpkmnefbofhjbaaGreat Go.Maps

theorem results_cell2 {P : Program} {fn : Func} {p u : Tmp} {ty : TypeId} (h : fn.results = #[.cell p ty, .tmp u]) (tmps : Array Value) (w : World) (g : Nat) (tt : TypeId) (cs : Array Value) (fr : Nat × Nat) (d : TypeDesc)
    (hp : tmps.getD p undef = .pointer (some ⟨g, 0, none⟩)) (hg : w.heap[g]? = some (.cells cs tt fr))
    (hu : P.underlying ty = some d) (hd : (match d with | .struct _ | .array _ _ => true | _ => false) = true) (hi : (P.info? ty).map (·.size) = some cs.size) :
    (results fn tmps).run P w = .ok (.tuple #[.agg cs, tmps.getD u undef]) w := by
  have hp' : tmps[p]?.getD undef = .pointer (some ⟨g, 0, none⟩) := by simpa using hp
  simp [results, h, hp', asAddr, run_loadVar_row w g tt ty cs fr d hg hu hd hi]
set_option maxRecDepth 100000 in
set_option maxHeartbeats 8000000 in
theorem at_found (A : Option Addr) (n c : Nat) (ps : List Pn) (nm : ByteArray) (t : Int) (w : World) (hA : TLs w A (ps.map pl)) (hn : ps.length = n) (hc : n ≤ c) (hm : c ≤ maxLen) (h6 : n ≤ 1000000) {k r : Nat} {q : Bool} {fr : Int} {A0 : Option Addr} {c0 : Nat} (hp : ps[k]? = some ⟨nm, fr, A0, c0⟩) (h0 : PlR w A0 c0)
    (hr : findW (ordF nm t (ps.map pl)) 0 n = r) (hq : (decide (r < n) && (ordF nm t (ps.map pl) r == 0)) = q) (hk : (q = true ∧ r = k) ∨ (q = false ∧ r = k + 1)) :
    Calls Tryz.prog 14 #[.slice A n c, .string nm, .int .i64 t] w fun e w' => ∃ A1 m1, e = .returned (.tuple #[.agg #[.string nm, .int .i64 fr, .bool false, .slice none 0 0, .slice A1 1 m1, .slice none 0 0, .slice none 0 0], .bool true]) ∧ PlR w' A1 m1 ∧ Below w.heap.size w w' := by
  have hkn : k < n := by rw [← hn]; exact (List.getElem?_eq_some_iff.1 hp).1
  have hkn' : (k : Int) < (n : Int) := by omega
  obtain ⟨b, off, e, hl, ⟨g0, g1, g2, g3, g4, g5, g6⟩, -, -, -⟩ := hA k (pl ⟨nm, fr, A0, c0⟩) (by rw [List.getElem?_map, hp]; rfl)
  subst e
  obtain ⟨b0, hb0⟩ : ∃ b, w.heap.size = b := ⟨_, rfl⟩
  obtain ⟨L, hL⟩ : ∃ L, w.alloc (.cells #[.string ⟨#[]⟩, .int .i64 0, .bool false, .slice none 0 0, .slice none 0 0, .slice none 0 0, .slice none 0 0] 32) = L := ⟨_, rfl⟩
  have hBL : Below w.heap.size w L := hL ▸ below_one w _
  have HR0 : Hid (Blk L b0 32 #[.string ⟨#[]⟩, .int .i64 0, .bool false, .slice none 0 0, .slice none 0 0, .slice none 0 0, .slice none 0 0]) := Lib.hid (hL ▸ hb0 ▸ Blk.new w _ _)
  have HBL := Lib.hid hBL; have HB0 := Lib.hid hb0
  have HPL := Lib.hid (placeT_is (nm := nm) (fr := t) (some ⟨b, off, none⟩) n c h6 L (hA.below hBL) (by rw [List.length_map]; exact hn) hc hm hr hq)
  have HCP := Lib.hid (fun W (h : Below w.heap.size w W) => copied_plain nm fr A0 c0 W (h0.below h))
  have HG := Lib.hid (fun (W : World) (h : Below w.heap.size w W) => (show W.cell? ⟨b, off + k * 7, none⟩ = some (.string nm) ∧ W.cell? ⟨b, off + k * 7 + 1, none⟩ = some (.int .i64 fr) ∧ W.cell? ⟨b, off + k * 7 + 2, none⟩ = some (.bool false) ∧ W.cell? ⟨b, off + k * 7 + 3, none⟩ = some (.slice none 0 0) ∧ W.cell? ⟨b, off + k * 7 + 4, none⟩ = some (.slice A0 1 c0) ∧ W.cell? ⟨b, off + k * 7 + 5, none⟩ = some (.slice none 0 0) ∧ W.cell? ⟨b, off + k * 7 + 6, none⟩ = some (.slice none 0 0) from
    ⟨(h.cell (p := ⟨b, _, none⟩) hl).trans g0, (h.cell (p := ⟨b, _, none⟩) hl).trans g1, (h.cell (p := ⟨b, _, none⟩) hl).trans g2, (h.cell (p := ⟨b, _, none⟩) hl).trans g3, (h.cell (p := ⟨b, _, none⟩) hl).trans g4, (h.cell (p := ⟨b, _, none⟩) hl).trans g5, (h.cell (p := ⟨b, _, none⟩) hl).trans g6⟩))
  have hneg : decide ((k : Int) < 0) = false := decide_eq_false (by omega)
  have heq : (nm.toList == nm.toList) = true := beq_self_eq_true _
  unfold maxLen at hm
  clear hA hp h0 g0 g1 g2 g3 g4 g5 g6 hBL hr hq
  rcases hk with ⟨rfl, rfl⟩ | ⟨rfl, rfl⟩
  all_goals
    go_enter Tryz.func14, Tryz.ntmps14
    go_wp2_with (first
      | (go_at_call 21; go_loud ((with_reducible refine HPL.out.mono ?_); rintro e w1 ⟨rfl, hb⟩; have HB1 := Lib.hid (HBL.out.trans (hb.mono HBL.out.size)); have HR1 := Lib.hid (HR0.out.below hb HR0.out.lt); clear hb; obtain ⟨x0, x1, x2, x3, x4, x5, x6⟩ := HG.out _ HB1.out))
      | (go_at_call 24; go_loud ((with_reducible refine (HCP.out _ HB1.out).mono ?_); rintro e w2 ⟨A1, m1, rfl, hP, hb⟩; have HP := Lib.hid hP; have HB2 := Lib.hid (HB1.out.trans (hb.mono HB1.out.size)); have HR2 := Lib.hid (HR1.out.below hb HR1.out.lt); have HLT := Lib.hid HR1.out.lt; clear hb hP x0 x1 x2 x3 x4 x5 x6; obtain ⟨r0, s0, r1, s1, r2, s2, r3, s3, r4, s4, r5, s5, r6, s6⟩ := ask7 HR2.out (.string nm) (.int .i64 fr) (.bool false) (.slice none 0 0) (.slice A1 1 m1) (.slice none 0 0) (.slice none 0 0))))
    clear r0 s0 r1 s1 r2 s2 r3 s3 r4 s4 r5 s5 r6 s6
    have hput := put7 HR2.out (.string nm) (.int .i64 fr) (.bool false) (.slice none 0 0) (.slice A1 1 m1) (.slice none 0 0) (.slice none 0 0)
    refine bodyPost_ret (v := .tuple #[.agg #[.string nm, .int .i64 fr, .bool false, .slice none 0 0, .slice A1 1 m1, .slice none 0 0, .slice none 0 0], .bool true]) (results_cell2 (p := 6) (u := 7) rfl _ _ b0 32 #[.string nm, .int .i64 fr, .bool false, .slice none 0 0, .slice A1 1 m1, .slice none 0 0, .slice none 0 0] (0, 0) _ rfl hput Tryz.underlying32 rfl rfl) rfl ⟨A1, m1, rfl, (HP.out.keep (by rw [size7]; exact Nat.le_refl _) (fun j hj _ => keep7 (by have := HLT.out; omega))).lies, below7 HB2.out (by rw [HB0.out]; exact Nat.le_refl _)⟩
set_option maxRecDepth 100000 in
set_option maxHeartbeats 8000000 in
theorem at_other (A : Option Addr) (n c : Nat) (ps : List Pn) (nm nm2 : ByteArray) (t : Int) (w : World) (hA : TLs w A (ps.map pl)) (hn : ps.length = n) (hc : n ≤ c) (hm : c ≤ maxLen) (h6 : n ≤ 1000000) {k : Nat} {fr : Int} {A0 : Option Addr} {c0 : Nat} (hp : ps[k]? = some ⟨nm2, fr, A0, c0⟩)
    (hr : findW (ordF nm t (ps.map pl)) 0 n = k + 1) (hq : (decide (k + 1 < n) && (ordF nm t (ps.map pl) (k + 1) == 0)) = false) (hne : (nm2.toList == nm.toList) = false) :
    Calls Tryz.prog 14 #[.slice A n c, .string nm, .int .i64 t] w fun e w' => e = .returned (.tuple #[.agg #[.string ⟨#[]⟩, .int .i64 0, .bool false, .slice none 0 0, .slice none 0 0, .slice none 0 0, .slice none 0 0], .bool false]) ∧ Below w.heap.size w w' := by
  have hkn : k < n := by rw [← hn]; exact (List.getElem?_eq_some_iff.1 hp).1
  have hkn' : (k : Int) < (n : Int) := by omega
  obtain ⟨b, off, e, hl, ⟨g0, g1, g2, g3, g4, g5, g6⟩, -, -, -⟩ := hA k (pl ⟨nm2, fr, A0, c0⟩) (by rw [List.getElem?_map, hp]; rfl)
  subst e
  obtain ⟨b0, hb0⟩ : ∃ b, w.heap.size = b := ⟨_, rfl⟩
  obtain ⟨L, hL⟩ : ∃ L, w.alloc (.cells #[.string ⟨#[]⟩, .int .i64 0, .bool false, .slice none 0 0, .slice none 0 0, .slice none 0 0, .slice none 0 0] 32) = L := ⟨_, rfl⟩
  have hBL : Below w.heap.size w L := hL ▸ below_one w _
  have HR0 : Hid (Blk L b0 32 #[.string ⟨#[]⟩, .int .i64 0, .bool false, .slice none 0 0, .slice none 0 0, .slice none 0 0, .slice none 0 0]) := Lib.hid (hL ▸ hb0 ▸ Blk.new w _ _)
  have HBL := Lib.hid hBL; have HB0 := Lib.hid hb0
  have HPL := Lib.hid (placeT_is (nm := nm) (fr := t) (some ⟨b, off, none⟩) n c h6 L (hA.below hBL) (by rw [List.length_map]; exact hn) hc hm hr hq)
  have HG := Lib.hid (fun (W : World) (h : Below w.heap.size w W) => (h.cell (p := ⟨b, _, none⟩) hl).trans g0)
  have hneg : decide ((k : Int) < 0) = false := decide_eq_false (by omega)
  unfold maxLen at hm
  clear hA hp g0 g1 g2 g3 g4 g5 g6 hBL hr hq
  go_enter Tryz.func14, Tryz.ntmps14
  go_wp2_with (first
    | (go_at_call 21; go_loud ((with_reducible refine HPL.out.mono ?_); rintro e w1 ⟨rfl, hb⟩; have HB1 := Lib.hid (HBL.out.trans (hb.mono HBL.out.size)); have HR1 := Lib.hid (HR0.out.below hb HR0.out.lt); clear hb; have x0 : w1.cell? ⟨b, off + k * 7, none⟩ = some (.string nm2) := HG.out _ HB1.out; obtain ⟨r0, s0, r1, s1, r2, s2, r3, s3, r4, s4, r5, s5, r6, s6⟩ := ask7 HR1.out (.string ⟨#[]⟩) (.int .i64 0) (.bool false) (.slice none 0 0) (.slice none 0 0) (.slice none 0 0) (.slice none 0 0))))
  clear r0 s0 r1 s1 r2 s2 r3 s3 r4 s4 r5 s5 r6 s6
  have hput := put7 HR1.out (.string ⟨#[]⟩) (.int .i64 0) (.bool false) (.slice none 0 0) (.slice none 0 0) (.slice none 0 0) (.slice none 0 0)
  exact bodyPost_ret (v := .tuple #[.agg #[.string ⟨#[]⟩, .int .i64 0, .bool false, .slice none 0 0, .slice none 0 0, .slice none 0 0, .slice none 0 0], .bool false]) (results_cell2 (p := 6) (u := 7) rfl _ _ b0 32 #[.string ⟨#[]⟩, .int .i64 0, .bool false, .slice none 0 0, .slice none 0 0, .slice none 0 0, .slice none 0 0] (0, 0) _ rfl hput Tryz.underlying32 rfl rfl) rfl ⟨rfl, below7 HB1.out (by rw [HB0.out]; exact Nat.le_refl _)⟩
end Go.Proofs.YtpkmnefbofhjbaaGreat.Ck
namespace Go.Proofs.YtpkmnefbofhjbaaGreat.Ck
open Go Go.Lib Go.RowKit Go.Proofs.YtpkmnefbofhjbaaGreat Go.Maps

set_option maxRecDepth 100000 in
set_option maxHeartbeats 8000000 in
theorem plain_is (nm : ByteArray) (fr : Int) (w : World) : Calls Tryz.prog 13 #[.string nm, .int .i64 fr] w fun e w' => ∃ A c, e = .returned (.agg #[.string nm, .int .i64 fr, .bool false, .slice none 0 0, .slice A 1 c, .slice none 0 0, .slice none 0 0]) ∧ PlR w' A c ∧ Below w.heap.size w w' := by
  obtain ⟨b0, hb0⟩ : ∃ b, w.heap.size = b := ⟨_, rfl⟩
  have hz : Blk (w.alloc (.cells #[.string ⟨#[]⟩, .int .i64 0, .bool false, .slice none 0 0, .slice none 0 0, .slice none 0 0, .slice none 0 0] 32)) b0 32 #[.string ⟨#[]⟩, .int .i64 0, .bool false, .slice none 0 0, .slice none 0 0, .slice none 0 0, .slice none 0 0] := hb0 ▸ Blk.new w _ _
  have hzs : (w.alloc (.cells #[.string ⟨#[]⟩, .int .i64 0, .bool false, .slice none 0 0, .slice none 0 0, .slice none 0 0, .slice none 0 0] 32)).heap.size = b0 + 1 := by rw [World.size_alloc, hb0]
  have hzb : Below w.heap.size w (w.alloc (.cells #[.string ⟨#[]⟩, .int .i64 0, .bool false, .slice none 0 0, .slice none 0 0, .slice none 0 0, .slice none 0 0] 32)) := below_one w _
  have HZ := Lib.hid hz; have HZS := Lib.hid hzs; have HZB := Lib.hid hzb
  clear hz hzs hzb
  go_enter Tryz.func13, Tryz.ntmps13
  go_upto_region 1 with fail
  have hz := HZ.out; have hzs := HZS.out; have hzb := HZB.out
  rw [hb0] at hzb
  try rw [hb0]
  generalize w.alloc (.cells #[.string ⟨#[]⟩, .int .i64 0, .bool false, .slice none 0 0, .slice none 0 0, .slice none 0 0, .slice none 0 0] 32) = L0 at hz hzs hzb ⊢
  clear HZ HZS HZB
  have hr : Blk (L0.alloc (.cells #[.string ⟨#[97, 108, 108]⟩, .slice none 0 0] 60)) b0 32 #[.string ⟨#[]⟩, .int .i64 0, .bool false, .slice none 0 0, .slice none 0 0, .slice none 0 0, .slice none 0 0] := hz.alloc _
  have hp : Blk (L0.alloc (.cells #[.string ⟨#[97, 108, 108]⟩, .slice none 0 0] 60)) (b0 + 1) 60 #[.string ⟨#[97, 108, 108]⟩, .slice none 0 0] := hzs ▸ Blk.new L0 _ _
  have hBL : Below b0 w (L0.alloc (.cells #[.string ⟨#[97, 108, 108]⟩, .slice none 0 0] 60)) := hzb.alloc (by omega) _
  obtain ⟨W1, hW1⟩ : ∃ W1, L0.alloc (.cells #[.string ⟨#[97, 108, 108]⟩, .slice none 0 0] 60) = W1 := ⟨_, rfl⟩
  rw [hW1] at hr hp hBL
  obtain ⟨r0, s0, r1, s1, r2, s2, r3, s3, r4, s4, r5, s5, r6, s6⟩ := ask7 hr (.string nm) (.int .i64 fr) (.bool false) (.slice none 0 0) (.slice (some ⟨b0 + 1, 0, none⟩) 1 1) (.slice none 0 0) (.slice none 0 0)
  have HR := Lib.hid hr; have HP := Lib.hid hp; have HBL := Lib.hid hBL
  clear hr hp hBL hz hzb
  go_wp2_with fail
  have hput := put7 HR.out (.string nm) (.int .i64 fr) (.bool false) (.slice none 0 0) (.slice (some ⟨b0 + 1, 0, none⟩) 1 1) (.slice none 0 0) (.slice none 0 0)
  refine bodyPost_ret (v := .agg #[.string nm, .int .i64 fr, .bool false, .slice none 0 0, .slice (some ⟨b0 + 1, 0, none⟩) 1 1, .slice none 0 0, .slice none 0 0]) (results_cell1 (p := 4) rfl _ _ b0 32 #[.string nm, .int .i64 fr, .bool false, .slice none 0 0, .slice (some ⟨b0 + 1, 0, none⟩) 1 1, .slice none 0 0, .slice none 0 0] (0, 0) _ rfl hput Tryz.underlying32 rfl rfl) rfl ⟨_, 1, rfl, ⟨b0 + 1, 0, rfl, ?_, ?_, ?_, Nat.le_refl _, by decide⟩, by rw [hb0]; exact below7 HBL.out (Nat.le_refl _)⟩
  · rw [size7]; exact HP.out.lt
  · exact (World.cell?_of_block (a := ⟨b0 + 1, 0, none⟩) (keep7 (show b0 + 1 ≠ b0 by omega))).trans (HP.out.cell 0)
  · exact (World.cell?_of_block (a := ⟨b0 + 1, 1, none⟩) (keep7 (show b0 + 1 ≠ b0 by omega))).trans (HP.out.cell 1)
end Go.Proofs.YtpkmnefbofhjbaaGreat.Ck
namespace Go.Proofs.YtpkmnefbofhjbaaGreat.Ck
open Go Go.Lib Go.RowKit Go.Proofs.YtpkmnefbofhjbaaGreat Go.Maps

theorem o_999 (A0 A1 : Option Addr) (c0 c1 : Nat) : ordF ⟨#[98, 97, 115, 105, 99]⟩ 999 [pl ⟨⟨#[98, 97, 115, 105, 99]⟩, 0, A0, c0⟩, pl ⟨⟨#[98, 97, 115, 105, 99]⟩, 1000, A1, c1⟩] 0 = 1 ∧ ordF ⟨#[98, 97, 115, 105, 99]⟩ 999 [pl ⟨⟨#[98, 97, 115, 105, 99]⟩, 0, A0, c0⟩, pl ⟨⟨#[98, 97, 115, 105, 99]⟩, 1000, A1, c1⟩] 1 = -1 := by
  have h : cmpB ⟨#[98, 97, 115, 105, 99]⟩ ⟨#[98, 97, 115, 105, 99]⟩ = 0 := by decide +kernel
  exact ⟨by show orI (cmpB ⟨#[98, 97, 115, 105, 99]⟩ ⟨#[98, 97, 115, 105, 99]⟩) (cmpI 999 0) = 1; rw [h]; rfl, by show orI (cmpB ⟨#[98, 97, 115, 105, 99]⟩ ⟨#[98, 97, 115, 105, 99]⟩) (cmpI 999 1000) = -1; rw [h]; rfl⟩
theorem o_1000 (A0 A1 : Option Addr) (c0 c1 : Nat) : ordF ⟨#[98, 97, 115, 105, 99]⟩ 1000 [pl ⟨⟨#[98, 97, 115, 105, 99]⟩, 0, A0, c0⟩, pl ⟨⟨#[98, 97, 115, 105, 99]⟩, 1000, A1, c1⟩] 0 = 1 ∧ ordF ⟨#[98, 97, 115, 105, 99]⟩ 1000 [pl ⟨⟨#[98, 97, 115, 105, 99]⟩, 0, A0, c0⟩, pl ⟨⟨#[98, 97, 115, 105, 99]⟩, 1000, A1, c1⟩] 1 = 0 := by
  have h : cmpB ⟨#[98, 97, 115, 105, 99]⟩ ⟨#[98, 97, 115, 105, 99]⟩ = 0 := by decide +kernel
  exact ⟨by show orI (cmpB ⟨#[98, 97, 115, 105, 99]⟩ ⟨#[98, 97, 115, 105, 99]⟩) (cmpI 1000 0) = 1; rw [h]; rfl, by show orI (cmpB ⟨#[98, 97, 115, 105, 99]⟩ ⟨#[98, 97, 115, 105, 99]⟩) (cmpI 1000 1000) = 0; rw [h]; rfl⟩
theorem o_plus (A0 A1 : Option Addr) (c0 c1 : Nat) : ordF ⟨#[112, 108, 117, 115]⟩ 5 [pl ⟨⟨#[98, 97, 115, 105, 99]⟩, 0, A0, c0⟩, pl ⟨⟨#[98, 97, 115, 105, 99]⟩, 1000, A1, c1⟩] 1 = 1 := by
  have h : cmpB ⟨#[112, 108, 117, 115]⟩ ⟨#[98, 97, 115, 105, 99]⟩ = 1 := by decide +kernel
  show orI (cmpB ⟨#[112, 108, 117, 115]⟩ ⟨#[98, 97, 115, 105, 99]⟩) (cmpI 5 1000) = 1
  rw [h]; rfl
theorem f_999 (A0 A1 : Option Addr) (c0 c1 : Nat) : findW (ordF ⟨#[98, 97, 115, 105, 99]⟩ 999 [pl ⟨⟨#[98, 97, 115, 105, 99]⟩, 0, A0, c0⟩, pl ⟨⟨#[98, 97, 115, 105, 99]⟩, 1000, A1, c1⟩]) 0 2 = 1 := by
  obtain ⟨h0, h1⟩ := o_999 A0 A1 c0 c1
  rw [findW_down (by decide) (by show ¬ 0 < ordF _ _ _ 1; rw [h1]; decide), findW_up (by decide) (by show 0 < ordF _ _ _ 0; rw [h0]; decide)]
  exact findW_end (by decide)
theorem f_1000 (A0 A1 : Option Addr) (c0 c1 : Nat) : findW (ordF ⟨#[98, 97, 115, 105, 99]⟩ 1000 [pl ⟨⟨#[98, 97, 115, 105, 99]⟩, 0, A0, c0⟩, pl ⟨⟨#[98, 97, 115, 105, 99]⟩, 1000, A1, c1⟩]) 0 2 = 1 := by
  obtain ⟨h0, h1⟩ := o_1000 A0 A1 c0 c1
  rw [findW_down (by decide) (by show ¬ 0 < ordF _ _ _ 1; rw [h1]; decide), findW_up (by decide) (by show 0 < ordF _ _ _ 0; rw [h0]; decide)]
  exact findW_end (by decide)
theorem f_plus (A0 A1 : Option Addr) (c0 c1 : Nat) : findW (ordF ⟨#[112, 108, 117, 115]⟩ 5 [pl ⟨⟨#[98, 97, 115, 105, 99]⟩, 0, A0, c0⟩, pl ⟨⟨#[98, 97, 115, 105, 99]⟩, 1000, A1, c1⟩]) 0 2 = 2 := by
  have h1 := o_plus A0 A1 c0 c1
  rw [findW_up (by decide) (by show 0 < ordF _ _ _ 1; rw [h1]; decide)]
  exact findW_end (by decide)
theorem c_1000 (A0 A1 : Option Addr) (c0 c1 : Nat) : ([pl ⟨⟨#[98, 97, 115, 105, 99]⟩, 0, A0, c0⟩, pl ⟨⟨#[98, 97, 115, 105, 99]⟩, 1000, A1, c1⟩].filter (qC ⟨#[98, 97, 115, 105, 99]⟩ 0 1000)).length = 1 := by
  have h0 : qC ⟨#[98, 97, 115, 105, 99]⟩ 0 1000 (pl ⟨⟨#[98, 97, 115, 105, 99]⟩, 0, A0, c0⟩) = true := by show ((⟨#[98, 97, 115, 105, 99]⟩ : ByteArray).toList == (⟨#[98, 97, 115, 105, 99]⟩ : ByteArray).toList && pdC 0 1000 0) = true; decide +kernel
  have h1 : qC ⟨#[98, 97, 115, 105, 99]⟩ 0 1000 (pl ⟨⟨#[98, 97, 115, 105, 99]⟩, 1000, A1, c1⟩) = false := by show ((⟨#[98, 97, 115, 105, 99]⟩ : ByteArray).toList == (⟨#[98, 97, 115, 105, 99]⟩ : ByteArray).toList && pdC 0 1000 1000) = false; decide +kernel
  rw [List.filter_cons, if_pos h0, List.filter_cons, if_neg (by rw [h1]; decide)]; rfl
theorem c_1001 (A0 A1 : Option Addr) (c0 c1 : Nat) : ([pl ⟨⟨#[98, 97, 115, 105, 99]⟩, 0, A0, c0⟩, pl ⟨⟨#[98, 97, 115, 105, 99]⟩, 1000, A1, c1⟩].filter (qC ⟨#[98, 97, 115, 105, 99]⟩ 0 1001)).length = 2 := by
  have h0 : qC ⟨#[98, 97, 115, 105, 99]⟩ 0 1001 (pl ⟨⟨#[98, 97, 115, 105, 99]⟩, 0, A0, c0⟩) = true := by show ((⟨#[98, 97, 115, 105, 99]⟩ : ByteArray).toList == (⟨#[98, 97, 115, 105, 99]⟩ : ByteArray).toList && pdC 0 1001 0) = true; decide +kernel
  have h1 : qC ⟨#[98, 97, 115, 105, 99]⟩ 0 1001 (pl ⟨⟨#[98, 97, 115, 105, 99]⟩, 1000, A1, c1⟩) = true := by show ((⟨#[98, 97, 115, 105, 99]⟩ : ByteArray).toList == (⟨#[98, 97, 115, 105, 99]⟩ : ByteArray).toList && pdC 0 1001 1000) = true; decide +kernel
  rw [List.filter_cons, if_pos h0, List.filter_cons, if_pos h1]; rfl
theorem ne_plus : ((⟨#[98, 97, 115, 105, 99]⟩ : ByteArray).toList == (⟨#[112, 108, 117, 115]⟩ : ByteArray).toList) = false := by decide +kernel
end Go.Proofs.YtpkmnefbofhjbaaGreat.Ck
namespace Go.Proofs.YtpkmnefbofhjbaaGreat.Ck
open Go Go.Lib Go.RowKit Go.Proofs.YtpkmnefbofhjbaaGreat Go.Maps

theorem tls_one {w : World} {g : Nat} {nm : ByteArray} {fr : Int} {A : Option Addr} {c : Nat} (hb : Blk w g 32 #[.string nm, .int .i64 fr, .bool false, .slice none 0 0, .slice A 1 c, .slice none 0 0, .slice none 0 0]) (h : PlR w A c) (hz : nm.size ≤ maxLen) : TLs w (some ⟨g, 0, none⟩) [pl ⟨nm, fr, A, c⟩] :=
  tls_pl (ms := [⟨nm, fr, A, c⟩]) (fun k t hk => by
    match k, hk with
    | 0, hk =>
      obtain rfl : pl ⟨nm, fr, A, c⟩ = t := Option.some.inj hk
      exact ⟨g, 0, rfl, hb.lt, hb.cell 0, hb.cell 1, hb.cell 2, hb.cell 3, hb.cell 4, hb.cell 5, hb.cell 6⟩) (fun j m hj => by
    match j, hj with
    | 0, hj => obtain rfl := Option.some.inj hj; exact ⟨h, hz⟩)
theorem tls_two {w : World} {g : Nat} {nm nn : ByteArray} {fr ft : Int} {A B : Option Addr} {c d : Nat} (hb : Blk w g 32 (#[.string nm, .int .i64 fr, .bool false, .slice none 0 0, .slice A 1 c, .slice none 0 0, .slice none 0 0, .string nn, .int .i64 ft, .bool false, .slice none 0 0, .slice B 1 d, .slice none 0 0, .slice none 0 0])) (h : PlR w A c) (h' : PlR w B d) (hz : nm.size ≤ maxLen) (hz' : nn.size ≤ maxLen) : TLs w (some ⟨g, 0, none⟩) [pl ⟨nm, fr, A, c⟩, pl ⟨nn, ft, B, d⟩] :=
  tls_pl (ms := [⟨nm, fr, A, c⟩, ⟨nn, ft, B, d⟩]) (fun k t hk => by
    match k, hk with
    | 0, hk =>
      obtain rfl : pl ⟨nm, fr, A, c⟩ = t := Option.some.inj hk
      exact ⟨g, 0, rfl, hb.lt, hb.cell 0, hb.cell 1, hb.cell 2, hb.cell 3, hb.cell 4, hb.cell 5, hb.cell 6⟩
    | 1, hk =>
      obtain rfl : pl ⟨nn, ft, B, d⟩ = t := Option.some.inj hk
      exact ⟨g, 0, rfl, hb.lt, hb.cell 7, hb.cell 8, hb.cell 9, hb.cell 10, hb.cell 11, hb.cell 12, hb.cell 13⟩) (fun j m hj => by
    match j, hj with
    | 0, hj => obtain rfl := Option.some.inj hj; exact ⟨h, hz⟩
    | 1, hj => obtain rfl := Option.some.inj hj; exact ⟨h', hz'⟩)
theorem bas_le : (⟨#[98, 97, 115, 105, 99]⟩ : ByteArray).size ≤ maxLen := by decide
theorem fix_len {w : World} {base e size n m : Nat} {v : Value} {xs : List Value} (h : w.ownsRow base e size v n xs) (hn : n = m) : ∃ A c, v = .slice A m c := by
  subst hn
  rcases h.2 with ⟨rfl, rfl⟩ | ⟨g, cap, cur, rfl, -⟩
  · exact ⟨none, 0, rfl⟩
  · exact ⟨_, _, rfl⟩
theorem chg_is {B0 B1 : Option Addr} {d0 d1 : Nat} {b : Int} {n : Nat} (hl : ([pl ⟨⟨#[98, 97, 115, 105, 99]⟩, 0, B0, d0⟩, pl ⟨⟨#[98, 97, 115, 105, 99]⟩, 1000, B1, d1⟩].filter (qC ⟨#[98, 97, 115, 105, 99]⟩ 0 b)).length = n) (A : Option Addr) (c : Nat) (w : World) (hA : TLs w A [pl ⟨⟨#[98, 97, 115, 105, 99]⟩, 0, B0, d0⟩, pl ⟨⟨#[98, 97, 115, 105, 99]⟩, 1000, B1, d1⟩]) :
    Calls Tryz.prog 15 #[.slice A 2 c, .string ⟨#[98, 97, 115, 105, 99]⟩, .agg #[.int .i64 0, .int .i64 b]] w fun e w' => ∃ A' c', e = .returned (.slice A' n c') ∧ Below w.heap.size w w' :=
  (changes_is A 2 c [pl ⟨⟨#[98, 97, 115, 105, 99]⟩, 0, B0, d0⟩, pl ⟨⟨#[98, 97, 115, 105, 99]⟩, 1000, B1, d1⟩] ⟨#[98, 97, 115, 105, 99]⟩ 0 b w hA rfl (by decide)).mono fun e w' ⟨v, he, ho, hb⟩ => by
    obtain ⟨A', c', rfl⟩ := fix_len (m := n) ho (by simpa [frs] using hl)
    exact ⟨A', c', he, hb⟩
/-- Behind Replace: the list of two. -/
def AwT (w : World) (AL : Option Addr) (B0 B1 : Option Addr) (d0 d1 : Nat) (W : World) : Prop := Below w.heap.size w W ∧ TLs W AL [pl ⟨⟨#[98, 97, 115, 105, 99]⟩, 0, B0, d0⟩, pl ⟨⟨#[98, 97, 115, 105, 99]⟩, 1000, B1, d1⟩] ∧ PlR W B0 d0 ∧ PlR W B1 d1
theorem AwT.keep {w W W' : World} {AL B0 B1 : Option Addr} {d0 d1 : Nat} (h : AwT w AL B0 B1 d0 d1 W) (hb : Below W.heap.size W W') : AwT w AL B0 B1 d0 d1 W' := ⟨h.1.trans (hb.mono h.1.size), h.2.1.below hb, h.2.2.1.below hb, h.2.2.2.below hb⟩
theorem AwT.bel {w W : World} {AL B0 B1 : Option Addr} {d0 d1 : Nat} (h : AwT w AL B0 B1 d0 d1 W) : Below w.heap.size w W := h.1
theorem AwT.a999 {w W : World} {AL B0 B1 : Option Addr} {d0 d1 c : Nat} (h : AwT w AL B0 B1 d0 d1 W) (hc : 2 ≤ c ∧ c ≤ maxLen) : Calls Tryz.prog 14 #[.slice AL 2 c, .string ⟨#[98, 97, 115, 105, 99]⟩, .int .i64 999] W fun e w' => ∃ A1 m1, e = .returned (.tuple #[.agg #[.string ⟨#[98, 97, 115, 105, 99]⟩, .int .i64 0, .bool false, .slice none 0 0, .slice A1 1 m1, .slice none 0 0, .slice none 0 0], .bool true]) ∧ PlR w' A1 m1 ∧ Below W.heap.size W w' :=
  at_found AL 2 c [⟨⟨#[98, 97, 115, 105, 99]⟩, 0, B0, d0⟩, ⟨⟨#[98, 97, 115, 105, 99]⟩, 1000, B1, d1⟩] ⟨#[98, 97, 115, 105, 99]⟩ 999 W h.2.1 rfl hc.1 hc.2 (by decide) (k := 0) (r := 1) (q := false) rfl h.2.2.1 (f_999 B0 B1 d0 d1) (by show (decide (1 < 2) && (ordF _ _ [pl ⟨⟨#[98, 97, 115, 105, 99]⟩, 0, B0, d0⟩, pl ⟨⟨#[98, 97, 115, 105, 99]⟩, 1000, B1, d1⟩] 1 == 0)) = false; rw [(o_999 B0 B1 d0 d1).2]; rfl) (.inr ⟨rfl, rfl⟩)
theorem AwT.a1000 {w W : World} {AL B0 B1 : Option Addr} {d0 d1 c : Nat} (h : AwT w AL B0 B1 d0 d1 W) (hc : 2 ≤ c ∧ c ≤ maxLen) : Calls Tryz.prog 14 #[.slice AL 2 c, .string ⟨#[98, 97, 115, 105, 99]⟩, .int .i64 1000] W fun e w' => ∃ A1 m1, e = .returned (.tuple #[.agg #[.string ⟨#[98, 97, 115, 105, 99]⟩, .int .i64 1000, .bool false, .slice none 0 0, .slice A1 1 m1, .slice none 0 0, .slice none 0 0], .bool true]) ∧ PlR w' A1 m1 ∧ Below W.heap.size W w' :=
  at_found AL 2 c [⟨⟨#[98, 97, 115, 105, 99]⟩, 0, B0, d0⟩, ⟨⟨#[98, 97, 115, 105, 99]⟩, 1000, B1, d1⟩] ⟨#[98, 97, 115, 105, 99]⟩ 1000 W h.2.1 rfl hc.1 hc.2 (by decide) (k := 1) (r := 1) (q := true) rfl h.2.2.2 (f_1000 B0 B1 d0 d1) (by show (decide (1 < 2) && (ordF _ _ [pl ⟨⟨#[98, 97, 115, 105, 99]⟩, 0, B0, d0⟩, pl ⟨⟨#[98, 97, 115, 105, 99]⟩, 1000, B1, d1⟩] 1 == 0)) = true; rw [(o_1000 B0 B1 d0 d1).2]; rfl) (.inl ⟨rfl, rfl⟩)
theorem AwT.plus {w W : World} {AL B0 B1 : Option Addr} {d0 d1 c : Nat} (h : AwT w AL B0 B1 d0 d1 W) (hc : 2 ≤ c ∧ c ≤ maxLen) : Calls Tryz.prog 14 #[.slice AL 2 c, .string ⟨#[112, 108, 117, 115]⟩, .int .i64 5] W fun e w' => e = .returned (.tuple #[.agg #[.string ⟨#[]⟩, .int .i64 0, .bool false, .slice none 0 0, .slice none 0 0, .slice none 0 0, .slice none 0 0], .bool false]) ∧ Below W.heap.size W w' :=
  at_other AL 2 c [⟨⟨#[98, 97, 115, 105, 99]⟩, 0, B0, d0⟩, ⟨⟨#[98, 97, 115, 105, 99]⟩, 1000, B1, d1⟩] ⟨#[112, 108, 117, 115]⟩ ⟨#[98, 97, 115, 105, 99]⟩ 5 W h.2.1 rfl hc.1 hc.2 (by decide) (k := 1) rfl (f_plus B0 B1 d0 d1) rfl ne_plus
theorem AwT.one {w W : World} {AL B0 B1 : Option Addr} {d0 d1 c : Nat} (h : AwT w AL B0 B1 d0 d1 W) : Calls Tryz.prog 15 #[.slice AL 2 c, .string ⟨#[98, 97, 115, 105, 99]⟩, .agg #[.int .i64 0, .int .i64 1000]] W fun e w' => ∃ A' c', e = .returned (.slice A' 1 c') ∧ Below W.heap.size W w' := chg_is (c_1000 B0 B1 d0 d1) AL c W h.2.1
theorem AwT.both {w W : World} {AL B0 B1 : Option Addr} {d0 d1 c : Nat} (h : AwT w AL B0 B1 d0 d1 W) : Calls Tryz.prog 15 #[.slice AL 2 c, .string ⟨#[98, 97, 115, 105, 99]⟩, .agg #[.int .i64 0, .int .i64 1001]] W fun e w' => ∃ A' c', e = .returned (.slice A' 2 c') ∧ Below W.heap.size W w' := chg_is (c_1001 B0 B1 d0 d1) AL c W h.2.1
theorem chk9 {A0 A1 : Option Addr} {c0 c1 : Nat} (w : World) (h0 : PlR w A0 c0) (h1 : PlR w A1 c1) : Calls Tryz.prog 7 #[.slice (some ⟨w.heap.size, 0, none⟩) 2 2] (w.alloc (.cells #[.string ⟨#[98]⟩, .int .i64 0, .bool false, .slice none 0 0, .slice A0 1 c0, .slice none 0 0, .slice none 0 0, .string ⟨#[97]⟩, .int .i64 0, .bool false, .slice none 0 0, .slice A1 1 c1, .slice none 0 0, .slice none 0 0] 32)) fun e w' => e = .returned (.int .i64 9) ∧ Below (w.alloc (.cells #[.string ⟨#[98]⟩, .int .i64 0, .bool false, .slice none 0 0, .slice A0 1 c0, .slice none 0 0, .slice none 0 0, .string ⟨#[97]⟩, .int .i64 0, .bool false, .slice none 0 0, .slice A1 1 c1, .slice none 0 0, .slice none 0 0] 32)).heap.size (w.alloc (.cells #[.string ⟨#[98]⟩, .int .i64 0, .bool false, .slice none 0 0, .slice A0 1 c0, .slice none 0 0, .slice none 0 0, .string ⟨#[97]⟩, .int .i64 0, .bool false, .slice none 0 0, .slice A1 1 c1, .slice none 0 0, .slice none 0 0] 32)) w' :=
  checkT_is (chk_ba A0 A1 c0 c1) (some ⟨w.heap.size, 0, none⟩) 2 2 _ (tls_two (Blk.new w 32 #[.string ⟨#[98]⟩, .int .i64 0, .bool false, .slice none 0 0, .slice A0 1 c0, .slice none 0 0, .slice none 0 0, .string ⟨#[97]⟩, .int .i64 0, .bool false, .slice none 0 0, .slice A1 1 c1, .slice none 0 0, .slice none 0 0]) (h0.below (below_one w _)) (h1.below (below_one w _)) (by decide) (by decide)) rfl (Nat.le_refl _) (by decide)
set_option maxRecDepth 100000 in
set_option maxHeartbeats 16000000 in
theorem awakeT_any (w : World) : Calls Tryz.prog 6 #[] w fun e w' => e = .returned (.bool true) ∧ Below w.heap.size w w' := by
  have HPN := Lib.hid (fun nm fr W => plain_is nm fr W)
  go_enter Tryz.func6, Tryz.ntmps6
  go_wp2_with (first
    | (go_at_call 13; ((with_reducible refine (HPN.out ⟨#[98, 97, 115, 105, 99]⟩ 0 _).mono ?_); rintro e w1 ⟨A0, c0, rfl, h0, hb⟩; have H0 := Lib.hid h0; have HB1 := Lib.hid hb; clear hb h0))
    | (go_at_call 13; ((with_reducible refine (HPN.out ⟨#[98, 97, 115, 105, 99]⟩ 1000 _).mono ?_); rintro e w2 ⟨A1, c1, rfl, h1, hb⟩; have H1 := Lib.hid h1; have HK := Lib.hid ((Blk.new w1 32 #[.string ⟨#[98, 97, 115, 105, 99]⟩, .int .i64 0, .bool false, .slice none 0 0, .slice A0 1 c0, .slice none 0 0, .slice none 0 0]).below hb (Blk.new w1 32 #[.string ⟨#[98, 97, 115, 105, 99]⟩, .int .i64 0, .bool false, .slice none 0 0, .slice A0 1 c0, .slice none 0 0, .slice none 0 0]).lt); have H0b := Lib.hid ((H0.out.below (below_one w1 (.cells #[.string ⟨#[98, 97, 115, 105, 99]⟩, .int .i64 0, .bool false, .slice none 0 0, .slice A0 1 c0, .slice none 0 0, .slice none 0 0] 32))).below hb); have HB2 := Lib.hid ((HB1.out.alloc HB1.out.size (.cells #[.string ⟨#[98, 97, 115, 105, 99]⟩, .int .i64 0, .bool false, .slice none 0 0, .slice A0 1 c0, .slice none 0 0, .slice none 0 0] 32)).trans (hb.mono (HB1.out.alloc HB1.out.size (.cells #[.string ⟨#[98, 97, 115, 105, 99]⟩, .int .i64 0, .bool false, .slice none 0 0, .slice A0 1 c0, .slice none 0 0, .slice none 0 0] 32)).size)); clear hb h1))
    | (go_at_call 9; go_loud ((with_reducible refine (replace_is _ A0 A1 c0 c1 _ (tls_one HK.out H0b.out bas_le) H0b.out H1.out).mono ?_); rintro e w3 ⟨AL, cL, B0, d0, B1, d1, rfl, hT, hc, hm, x0, x1, hb⟩; have HC := Lib.hid (And.intro hc hm); have ST : Hid (AwT w AL B0 B1 d0 d1 w3) := Lib.hid ⟨HB2.out.trans (hb.mono HB2.out.size), hT, x0, x1⟩; clear hb hT hc hm x0 x1))
    | (go_at_call 14; ((with_reducible refine (ST.out.a999 HC.out).mono ?_); rintro e w4 ⟨E0, m0, rfl, -, hb⟩; have ST4 : Hid (AwT w AL B0 B1 d0 d1 (w4.alloc (.cells #[.string ⟨#[98, 97, 115, 105, 99]⟩, .int .i64 0, .bool false, .slice none 0 0, .slice E0 1 m0, .slice none 0 0, .slice none 0 0] 32))) := Lib.hid ((ST.out.keep hb).keep (below_one w4 _)); have HK4 := Lib.hid (Blk.new w4 32 #[.string ⟨#[98, 97, 115, 105, 99]⟩, .int .i64 0, .bool false, .slice none 0 0, .slice E0 1 m0, .slice none 0 0, .slice none 0 0]); clear hb))
    | (go_at_call 14; ((with_reducible refine (ST4.out.a1000 HC.out).mono ?_); rintro e w5 ⟨E1, m1, rfl, -, hb⟩; have ST5 : Hid (AwT w AL B0 B1 d0 d1 (w5.alloc (.cells #[.string ⟨#[98, 97, 115, 105, 99]⟩, .int .i64 1000, .bool false, .slice none 0 0, .slice E1 1 m1, .slice none 0 0, .slice none 0 0] 32))) := Lib.hid ((ST4.out.keep hb).keep (below_one w5 _)); have HK5 := Lib.hid (Blk.new w5 32 #[.string ⟨#[98, 97, 115, 105, 99]⟩, .int .i64 1000, .bool false, .slice none 0 0, .slice E1 1 m1, .slice none 0 0, .slice none 0 0]); have HL5 := Lib.hid (HK4.out.below hb HK4.out.lt |>.alloc (.cells #[.string ⟨#[98, 97, 115, 105, 99]⟩, .int .i64 1000, .bool false, .slice none 0 0, .slice E1 1 m1, .slice none 0 0, .slice none 0 0] 32)); clear hb))
    | (go_at_call 14; ((with_reducible refine (ST5.out.plus HC.out).mono ?_); rintro e w6 ⟨rfl, hb⟩; have ST6 : Hid (AwT w AL B0 B1 d0 d1 (w6.alloc (.cells #[.string ⟨#[]⟩, .int .i64 0, .bool false, .slice none 0 0, .slice none 0 0, .slice none 0 0, .slice none 0 0] 32))) := Lib.hid ((ST5.out.keep hb).keep (below_one w6 _)); have x5 := ((HK5.out.below hb HK5.out.lt).alloc (.cells #[.string ⟨#[]⟩, .int .i64 0, .bool false, .slice none 0 0, .slice none 0 0, .slice none 0 0, .slice none 0 0] 32)).cell 1; have x4 := ((HL5.out.below hb HL5.out.lt).alloc (.cells #[.string ⟨#[]⟩, .int .i64 0, .bool false, .slice none 0 0, .slice none 0 0, .slice none 0 0, .slice none 0 0] 32)).cell 1; clear hb))
    | (go_at_call 15; ((with_reducible refine ST6.out.one.mono ?_); rintro e w7 ⟨F0, n0, rfl, hb⟩; have ST7 := Lib.hid (ST6.out.keep hb); clear hb x4 x5))
    | (go_at_call 15; ((with_reducible refine ST7.out.both.mono ?_); rintro e w8 ⟨F1, n1, rfl, hb⟩; have ST8 := Lib.hid (ST7.out.keep hb); clear hb))
    | (go_at_call 13; ((with_reducible refine (HPN.out ⟨#[98]⟩ 0 _).mono ?_); rintro e w9 ⟨G0, q0, rfl, h0, hb⟩; have ST9 := Lib.hid (ST8.out.keep hb); have HG0 := Lib.hid h0; clear hb h0))
    | (go_at_call 13; ((with_reducible refine (HPN.out ⟨#[97]⟩ 0 _).mono ?_); rintro e wa ⟨G1, q1, rfl, h1, hb⟩; have STa := Lib.hid (ST9.out.keep hb); have HG1 := Lib.hid h1; have HG0a := Lib.hid (HG0.out.below hb); clear hb h1))
    | (go_at_call 7; go_loud ((with_reducible refine (chk9 wa HG0a.out HG1.out).mono ?_); rintro e wb ⟨rfl, hb⟩; have STb := Lib.hid ((STa.out.keep (below_one wa _)).keep hb); clear hb)))
  go_ret
  exact ⟨rfl, STb.out.bel⟩
end Go.Proofs.YtpkmnefbofhjbaaGreat.Ck
