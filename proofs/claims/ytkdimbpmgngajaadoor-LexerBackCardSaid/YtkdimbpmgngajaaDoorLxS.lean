/- Walk: scan. -/
import Derived.Test.YtkdimbpmgngajaaDoorLxT
import Derived.Maps.AppendAt
namespace Go.Proofs.YtkdimbpmgngajaaDoor.Lx
open Go Go.Lib Go.RowKit Go.Proofs.YtkdimbpmgngajaaDoor Go.Maps

/-- A token as memory has it; the text has N bytes. -/
def tkv (N : Nat) (t : Tk) : List Value := [.int .i64 t.k, .int .i64 (numV t.k t.tx), .int .i64 ((N - t.rem : Nat) : Int), .string ⟨⟨t.tx⟩⟩]
def tkl (N : Nat) (D : List Tk) : List Value := D.flatMap (tkv N)
theorem tkl_app (N : Nat) (a b : List Tk) : tkl N (a ++ b) = tkl N a ++ tkl N b := List.flatMap_append
theorem tkl_len (N : Nat) (D : List Tk) : (tkl N D).length = D.length * 4 := by
  induction D with
  | nil => rfl
  | cons r l ih => rw [tkl, List.flatMap_cons, List.length_append]; rw [tkl] at ih; rw [ih]; simp [tkv]; omega
theorem tkl_one (N : Nat) (D : List Tk) : ∀ v ∈ tkl N D, v.oneCell' = true := by
  intro v hv
  obtain ⟨r, _, h⟩ := List.mem_flatMap.1 hv
  simp [tkv] at h
  rcases h with rfl | rfl | rfl | rfl <;> rfl
/-- The tokens of a text, whatever its length. -/
def scnP (s : Wd) : Except (Nat × Nat) (List Tk) := if 65536 < s.length then .error (s.length, 5) else scn s
theorem tkInfo : (Tryd.prog.info? 30).map (fun i => (i.zero, i.size, i.bytes)) = some (some (.agg #[.int .i64 0, .int .i64 0, .int .i64 0, .string ByteArray.empty]), 4, 40) := by kernel_rfl
theorem tk_src {w : World} {g : Nat} {k n p : Int} {x : ByteArray} {N : Nat} {t : Tk} (h : TkB w g k n p x) (hk : k = t.k) (hn : n = (numV t.k t.tx : Nat)) (hp : p = ((N - t.rem : Nat) : Int)) (hx : x = ⟨⟨t.tx⟩⟩) : ∀ j v, (tkl N [t])[j]? = some v → w.cell? ((⟨g, 0, none⟩ : Addr).add j) = some v := fun j v hj => by
  subst hk hn hp hx
  obtain ⟨⟨h0, h1, h2, h3⟩, -⟩ := h.cells
  rw [add_none, Nat.zero_add]
  simp only [tkl, tkv, List.flatMap_cons, List.flatMap_nil, List.append_nil] at hj
  match j, hj with
  | 0, hj => injection hj with hj; rw [← hj]; exact h0
  | 1, hj => injection hj with hj; rw [← hj]; exact h1
  | 2, hj => injection hj with hj; rw [← hj]; exact h2
  | 3, hj => injection hj with hj; rw [← hj]; exact h3
  | j + 4, hj => cases hj
theorem ba_mk {X : ByteArray} {x : Wd} (h : X.data.toList = x) : X = ⟨⟨x⟩⟩ := ba_ext h
theorem own_far {w w' : World} {base g : Nat} {ty : TypeId} {c n : Nat} {v : Value} {l : List Value} (h : w.ownsRow base ty c v n l) (hb : w.grownBy w' (some g)) (hg : g < base) : w'.ownsRow base ty c v n l := by
  refine ⟨h.1, ?_⟩
  rcases h.2 with h | ⟨g', cap, cur, h1, h2, h3, h4, h5, h6, h7⟩
  · exact .inl h
  · exact .inr ⟨g', cap, cur, h1, h2, (hb.block g' (Array.getElem?_eq_some_iff.1 h3).1 (fun e => by have := Option.some.inj e; omega)).trans h3, h4, h5, h6, h7⟩
theorem own_mono {w : World} {base base' e size n : Nat} {v : Value} {xs : List Value} (h : w.ownsRow base e size v n xs) (hb : base' ≤ base) : w.ownsRow base' e size v n xs := by
  refine ⟨h.1, ?_⟩
  rcases h.2 with h | ⟨g', cap, cur, h1, h2, h3⟩
  · exact .inl h
  · exact .inr ⟨g', cap, cur, h1, Nat.le_trans hb h2, h3⟩
theorem below_grown {B : Nat} {a w w' : World} {row : Option Nat} (h : Below B a w) (hg : w.grownBy w' row) (hr : ∀ k, row = some k → B ≤ k) (hs : B ≤ w.heap.size) : Below B a w' := by
  refine ⟨hg.os.trans h.os, hg.tape.trans h.tape, hg.output.trans h.output, Nat.le_trans h.size hg.size, fun k hk => ?_⟩
  rw [hg.block k (by omega) (fun e => by have := hr k e.symm; omega), h.block k hk]
theorem below_one (w : World) (o : Obj) : Below w.heap.size w (w.alloc o) := (Below.refl _ w).alloc (Nat.le_refl _) _
/-- What scan leaves. -/
def ScO (R : Except (Nat × Nat) (List Tk)) (w : World) (s : ByteArray) (e : Ending) (w' : World) : Prop := match R with
  | .error (m, n) => e = .panicked (fx (s.size - m) n) ∧ Below w.heap.size w w'
  | .ok D => ∃ v, e = .returned v ∧ w'.ownsRow w.heap.size 30 4 v D.length (tkl s.size D) ∧ Below w.heap.size w w'
theorem tok_kind {s x r : Wd} {k : Nat} (h : tok s = .ok (k, x, r)) : 1 ≤ k := by
  match s, h with
  | b :: t, h =>
    rw [tok] at h
    split at h
    · split at h
      · cases h
      · injection h with h; injection h with h1 h2; omega
    · split at h
      · split at h
        · cases h
        · split at h
          · cases h
          · injection h with h; injection h with h1 h2; omega
      · split at h
        · have := (qut_ok h).1; omega
        · split at h
          · injection h with h; injection h with h1 h2; omega
          · cases h
set_option maxRecDepth 100000 in
set_option maxHeartbeats 16000000 in
theorem scan_any (s : ByteArray) (w : World) (hs : s.size ≤ maxLen) : Calls Tryd.prog 22 #[.string s] w (ScO (scnP s.data.toList) w s) := by
  have hsl : s.data.toList.length = s.size := by simp
  unfold scnP
  by_cases hbig : 65536 < s.size
  · have d0 : decide ((65536 : Int) < (s.size : Int)) = true := decide_eq_true (by omega)
    rw [if_pos (by rw [hsl]; exact hbig)]
    have hs9 := hs
    unfold maxLen at hs9
    clear hs hbig
    go_enter Tryd.func22, Tryd.ntmps22
    go_wp2_with fail
    refine ⟨rfl, ?_, Below.refl _ _⟩
    rw [Nat.sub_self]; rfl
  · have d0 : decide ((65536 : Int) < (s.size : Int)) = false := decide_eq_false (by omega)
    rw [if_neg (by rw [hsl]; exact hbig)]
    have hs6 : s.size ≤ 65536 := by omega
    obtain ⟨g, hg⟩ : ∃ g, w.heap.size = g := ⟨_, rfl⟩
    obtain ⟨R, hR⟩ : ∃ R, scn s.data.toList = R := ⟨_, rfl⟩
    have HRR := Lib.hid hR
    rw [hR]
    obtain ⟨i0, hi0, hz0, hz1, hz2⟩ := info_parts tkInfo
    clear hR hbig
    have hgg : g ≤ g := Nat.le_refl g
    go_enter Tryd.func22, Tryd.ntmps22
    go_wp2_with fail
    generalize hW1 : World.alloc w _ = W1
    have hB1 : Below w.heap.size w W1 := hW1 ▸ below_one w _
    have HCU : Hid (Cur W1 g s 0 s.data.toList) := Lib.hid ⟨hW1 ▸ hg ▸ heap_alloc_new w _, by rw [hsl]; omega, rfl, hs⟩
    have HB1 := Lib.hid hB1
    clear hB1 hs
    have HWG : Hid (w.heap.size = g) := Lib.hid hg
    clear hg hW1 d0
    go_loopw [4] (fun v wr => ∃ (u : Value) (p n : Nat) (r : Wd) (D : List Tk), u = v ∧ Hid (Cur wr g s p r) ∧ Hid (wr.ownsRow (g + 1) 30 4 u n (tkl s.size D)) ∧ Hid (D.length = n) ∧ n ≤ 65536 ∧ Hid (Below w.heap.size w wr) ∧ Hid (puts D (scn r) = R) ∧ Hid (D.length + r.length ≤ s.size)) (fun _ wr => s.size - posOf wr g)
    case atStart => exact ⟨_, 0, 0, _, [], rfl, HCU, Lib.hid (World.ownsRow_nil _ _ _ _), Lib.hid rfl, by omega, HB1, Lib.hid (by rw [puts_nil]; exact HRR.out), Lib.hid (by rw [hsl]; simp)⟩
    case round =>
      obtain ⟨v, p, n, r, D, rfl, HC, HO, HN, hn6, HB, HP, HL⟩ := hrel
      have hT := token_any HC.out
      cases hk : skp false r with
      | nil =>
        rw [hk] at hT
        unfold TokOut at hT
        simp only at hT
        have HT := Lib.hid hT
        have HRE : Hid (R = .ok (D ++ [⟨0, 0, []⟩])) := Lib.hid (by rw [← HP.out, scn_end hk]; rfl)
        have HPE : Hid ((s.size : Int) = ((s.size - 0 : Nat) : Int)) := Lib.hid (by rw [Nat.sub_zero])
        have HXE : Hid ((⟨#[]⟩ : ByteArray) = ⟨⟨[]⟩⟩) := Lib.hid rfl
        clear hT hk
        go_upto_region 6 with (go_at_call 27; (with_reducible refine HT.out.mono ?_); rintro e w1 ⟨rfl, p2, hC2⟩; have HC2 := Lib.hid hC2; clear hC2)
        have HB2 := Lib.hid (below_grown HB.out HC2.out.2 (fun j hj => (by injection hj with hj; have := HWG.out; omega)) HB.out.size)
        have HOL := Lib.hid (show ∀ a, v.ownBlock = some a → a < w1.heap.size from fun a ha => Nat.lt_of_lt_of_le (World.ownsRow.lt HO.out a ha).2 HC2.out.2.size)
        have hT5 : TkB (w1.alloc (.cells #[.int .i64 0, .int .i64 0, .int .i64 s.size, .string ⟨#[]⟩] 30)) w1.heap.size 0 0 s.size ⟨#[]⟩ := TkB.new w1 _ _ _ _
        have HT5 := Lib.hid hT5
        have HB5 := Lib.hid (HB2.out.trans ((below_one w1 (.cells #[.int .i64 0, .int .i64 0, .int .i64 s.size, .string ⟨#[]⟩] 30)).mono HB2.out.size))
        have HO5 := Lib.hid ((own_far HO.out HC2.out.2 (Nat.lt_succ_self g)).alloc (.cells #[.int .i64 0, .int .i64 0, .int .i64 s.size, .string ⟨#[]⟩] 30))
        have HC5 := Lib.hid (HC2.out.1.below (below_one w1 (.cells #[.int .i64 0, .int .i64 0, .int .i64 s.size, .string ⟨#[]⟩] 30)))
        clear hT5
        generalize hH : w1.heap.size = H at HT5 HOL
        generalize hW5 : World.alloc w1 _ = W5 at HT5 HB5 HO5 HC5
        clear hH hW5
        obtain ⟨⟨t0, t1, t2, t3⟩, u0, u1, u2, u3⟩ := HT5.out.cells
        go_wp2_with (at_builtin; refine wpList_append_own_at _ rfl (.tmp 14) (.tmp 16) 23 rfl (g + 1) 30 i0 _ 4 40 Tryd.underlying23 hi0 hz0 hz1 hz2 rfl (by decide) _ _ (tkl s.size D) rfl (HO5.out.alloc _) ⟨W5.heap.size, 0, none⟩ 1 1 (tkl s.size [⟨0, 0, []⟩]) rfl (by rw [tkl_len]; rfl) (tk_src (TkB.new W5 _ _ _ _) rfl rfl HPE.out rfl) (tkl_one _ _) (by unfold maxLen; omega) (by omega) (by have := HC5.out.lt; simp; omega) ?_; intro v6 w6 g1 g2 _ g3; have HO6 := Lib.hid g1; have HG6 := Lib.hid g2; have HG7 := Lib.hid g3; have HT6 := Lib.hid (show TkB w6 H 0 0 s.size ⟨#[]⟩ from (HT5.out.below (below_one W5 _)).keep (g2.block H (by have := HT5.out.lt; simp; omega) (fun e => absurd (HOL.out H e.symm) (Nat.lt_irrefl H)))); clear g1 g2 g3 t0 t1 t2 t3 u0 u1 u2 u3; obtain ⟨⟨t0, t1, t2, t3⟩, u0, u1, u2, u3⟩ := HT6.out.cells)
        go_ret
        rw [HRE.out]
        refine ⟨v6, rfl, ?_, ?_⟩
        · have h1 := own_mono HO6.out (show w.heap.size ≤ g + 1 by rw [HWG.out]; omega)
          rw [List.length_append, HN.out, tkl_app]; exact h1
        · exact below_grown (HB5.out.trans ((below_one W5 _).mono HB5.out.size)) HG6.out (fun j hj => by have := (World.ownsRow.lt HO5.out j hj).1; have := HWG.out; omega) (by have := HB5.out.size; simp; omega)
      | cons b t =>
        rw [hk] at hT
        unfold TokOut at hT
        simp only at hT
        cases ht : tok (b :: t) with
        | error m =>
          simp only [ht] at hT
          have HT := Lib.hid hT
          have HRE : Hid (R = .error ((b :: t).length, m)) := Lib.hid (by rw [← HP.out, scn_err hk (by simp) ht]; rfl)
          clear hT hk ht
          go_wp2_with (go_at_call 27; (with_reducible refine HT.out.mono ?_); rintro e w1 ⟨p3, hp3, rfl, hg1⟩; have HG1 := Lib.hid hg1; have HP3 := Lib.hid hp3; clear hg1 hp3)
          rw [HRE.out]
          refine ⟨rfl, ?_, ?_⟩
          · have : s.size - (b :: t).length = p3 := by have := HP3.out; simp; omega
            rw [this]
          · exact below_grown HB.out HG1.out (fun j hj => by injection hj with hj; have := HWG.out; omega) HB.out.size
        | ok y =>
          obtain ⟨k, x, r2⟩ := y
          simp only [ht] at hT
          have HE := Lib.hid (scn_tok hk ht)
          have hlt := tok_lt ht
          have hle := skp_le false r
          rw [hk] at hle
          have hk1 : 1 ≤ k := tok_kind ht
          have d1 : ((k : Int) == 0) = false := by rw [beq_eq_false_iff_ne]; omega
          have HLT := Lib.hid (show r2.length < r.length by omega)
          have hT2 : Calls Tryd.prog 27 #[.pointer (some ⟨g, 0, none⟩)] wr fun e w' => ∃ p3 : Nat, p3 = s.size - (t.length + 1) ∧ e = .returned (.agg #[.int .i64 k, .int .i64 (numV k x), .int .i64 p3, .string ⟨⟨x⟩⟩]) ∧ CoR wr w' g s r2 := hT.mono (by
            rintro e w' ⟨p3, hp3, X, rfl, hX, -, hC⟩
            exact ⟨p3, by omega, by rw [ba_mk hX], hC⟩)
          have HT := Lib.hid hT2
          clear hT hT2 hk ht hlt hle
          go_upto_region 6 with (go_at_call 27; (with_reducible refine HT.out.mono ?_); rintro e w1 ⟨p3, hp3, rfl, p2, hC2⟩; have HC2 := Lib.hid hC2; have HP3 := Lib.hid hp3; clear hC2 hp3)
          have HB2 := Lib.hid (below_grown HB.out HC2.out.2 (fun j hj => (by injection hj with hj; have := HWG.out; omega)) HB.out.size)
          have HOL := Lib.hid (show ∀ a, v.ownBlock = some a → a < w1.heap.size from fun a ha => Nat.lt_of_lt_of_le (World.ownsRow.lt HO.out a ha).2 HC2.out.2.size)
          have hT5 : TkB (w1.alloc (.cells #[.int .i64 k, .int .i64 (numV k x : Nat), .int .i64 p3, .string ⟨⟨x⟩⟩] 30)) w1.heap.size k (numV k x : Nat) p3 ⟨⟨x⟩⟩ := TkB.new w1 _ _ _ _
          have HT5 := Lib.hid hT5
          have HB5 := Lib.hid (HB2.out.trans ((below_one w1 (.cells #[.int .i64 k, .int .i64 (numV k x : Nat), .int .i64 p3, .string ⟨⟨x⟩⟩] 30)).mono HB2.out.size))
          have HO5 := Lib.hid ((own_far HO.out HC2.out.2 (Nat.lt_succ_self g)).alloc (.cells #[.int .i64 k, .int .i64 (numV k x : Nat), .int .i64 p3, .string ⟨⟨x⟩⟩] 30))
          have HC5 := Lib.hid (HC2.out.1.below (below_one w1 (.cells #[.int .i64 k, .int .i64 (numV k x : Nat), .int .i64 p3, .string ⟨⟨x⟩⟩] 30)))
          clear hT5
          generalize hH : w1.heap.size = H at HT5 HOL
          generalize hW5 : World.alloc w1 _ = W5 at HT5 HB5 HO5 HC5
          clear hH hW5
          obtain ⟨⟨t0, t1, t2, t3⟩, u0, u1, u2, u3⟩ := HT5.out.cells
          have HPE : Hid ((p3 : Int) = ((s.size - (t.length + 1) : Nat) : Int)) := Lib.hid (by rw [HP3.out])
          go_wp2_with (at_builtin; refine wpList_append_own_at _ rfl (.tmp 14) (.tmp 16) 23 rfl (g + 1) 30 i0 _ 4 40 Tryd.underlying23 hi0 hz0 hz1 hz2 rfl (by decide) _ _ (tkl s.size D) rfl (HO5.out.alloc _) ⟨W5.heap.size, 0, none⟩ 1 1 (tkl s.size [⟨k, t.length + 1, x⟩]) rfl (by rw [tkl_len]; rfl) (tk_src (TkB.new W5 _ _ _ _) rfl rfl HPE.out rfl) (tkl_one _ _) (by unfold maxLen; omega) (by omega) (by have := HC5.out.lt; simp; omega) ?_; intro v6 w6 g1 g2 _ g3; have HO6 := Lib.hid g1; have HG6 := Lib.hid g2; have HG7 := Lib.hid g3; have HT6 := Lib.hid (show TkB w6 H k (numV k x : Nat) p3 ⟨⟨x⟩⟩ from (HT5.out.below (below_one W5 _)).keep (g2.block H (by have := HT5.out.lt; simp; omega) (fun e => absurd (HOL.out H e.symm) (Nat.lt_irrefl H)))); clear g1 g2 g3 t0 t1 t2 t3 u0 u1 u2 u3; obtain ⟨⟨t0, t1, t2, t3⟩, u0, u1, u2, u3⟩ := HT6.out.cells)
          go_roundw
          case rel =>
            refine ⟨v6, _, n + 1, r2, D ++ [⟨k, t.length + 1, x⟩], rfl, Lib.hid ((HC5.out.below (below_one W5 _)).keep (HG6.out.block g (by have := HC5.out.lt; simp; omega) (fun e => absurd (World.ownsRow.lt HO5.out g e.symm).1 (by omega)))), Lib.hid (by rw [tkl_app]; exact HO6.out), Lib.hid (by rw [List.length_append, HN.out]; rfl), ?_, Lib.hid (below_grown (HB5.out.trans ((below_one W5 _).mono HB5.out.size)) HG6.out (fun j hj => by have := (World.ownsRow.lt HO5.out j hj).1; have := HWG.out; omega) (by have := HB5.out.size; simp; omega)), Lib.hid ?_, Lib.hid ?_⟩
            · have := HL.out; have := HN.out; have := HLT.out; omega
            · rw [← HP.out, HE.out, puts_put]; rfl
            · rw [List.length_append]; have := HL.out; have := HLT.out; simp; omega
          case measure =>
            have h1 := HC.out.pos
            have h2 := ((HC5.out.below (below_one W5 _)).keep (HG6.out.block g (by have := HC5.out.lt; simp; omega) (fun e => absurd (World.ownsRow.lt HO5.out g e.symm).1 (by omega)))).pos
            have h3 := HC.out.len
            have h4 := HC5.out.len
            have h5 := HLT.out
            rw [h1, h2]; omega
end Go.Proofs.YtkdimbpmgngajaaDoor.Lx
