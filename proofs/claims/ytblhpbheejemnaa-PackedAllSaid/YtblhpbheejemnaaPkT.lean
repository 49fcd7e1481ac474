/- Walks: the reader's phone; the reference's text. -/
import Derived.Test.YtblhpbheejemnaaPkY
namespace Go.Proofs.Ytblhpbheejemnaa
open Go.RowKit

/-- Half byte i of a field, and how many digits it says. -/
def gN (f : List Int) (i : Nat) : Int := if i % 2 = 1 then f.getD (i / 2) 0 % 16 else f.getD (i / 2) 0 / 16
def cN (f : List Int) : Int := f.getD 0 0 / 16
def txS (cnt : Int) (i : Nat) (g : Int) (p : List Int × Bool) : List Int × Bool := if (i : Int) ≤ cnt ∧ g ≤ 9 then (p.1 ++ [48 + g], p.2) else if (i : Int) ≤ cnt ∨ g ≠ 0 then (p.1, false) else p
/-- The digits of the first k half bytes behind the number of digits, and whether they have the form. -/
def txP (f : List Int) : Nat → List Int × Bool
  | 0 => ([], true)
  | k + 1 => txS (cN f) (k + 1) (gN f (k + 1)) (txP f k)
theorem tx_len (f : List Int) : ∀ k, (txP f k).1.length ≤ k
  | 0 => Nat.le_refl _
  | k + 1 => by
    have ih := tx_len f k
    show (txS _ _ _ _).1.length ≤ _
    unfold txS
    split
    · simp; omega
    · split <;> exact Nat.le_succ_of_le ih
theorem tx_ran (f : List Int) (hg : ∀ i, 0 ≤ gN f i) : ∀ k, ∀ x ∈ (txP f k).1, 0 ≤ x ∧ x ≤ 255
  | 0, x, hx => by cases hx
  | k + 1, x, hx => by
    have ih := tx_ran f hg k
    have h0 := hg (k + 1)
    change x ∈ (txS _ _ _ _).1 at hx
    unfold txS at hx
    split at hx
    · rename_i h
      rcases List.mem_append.1 hx with h1 | h1
      · exact ih x h1
      · obtain rfl : x = 48 + gN f (k + 1) := by simpa using h1
        omega
    · split at hx
      · exact ih x hx
      · exact ih x hx
theorem tx_sticky {f : List Int} {k : Nat} (h : (txP f k).2 = false) : ∀ {m}, k ≤ m → (txP f m).2 = false
  | 0, hm => by obtain rfl : k = 0 := by omega
                exact h
  | m + 1, hm => by
    rcases Nat.lt_or_ge m k with h1 | h1
    · obtain rfl : k = m + 1 := by omega
      exact h
    · have ih := tx_sticky h h1
      show (txS _ _ _ _).2 = false
      unfold txS
      split
      · exact ih
      · split
        · rfl
        · exact ih
theorem txS_a {cnt : Int} {i : Nat} {g : Int} {p : List Int × Bool} (h1 : (i : Int) ≤ cnt) (h2 : g ≤ 9) : txS cnt i g p = (p.1 ++ [48 + g], p.2) := by unfold txS; rw [if_pos ⟨h1, h2⟩]
theorem txS_b {cnt : Int} {i : Nat} {g : Int} {p : List Int × Bool} (h1 : (i : Int) ≤ cnt) (h2 : ¬ g ≤ 9) : txS cnt i g p = (p.1, false) := by unfold txS; rw [if_neg (fun h => h2 h.2), if_pos (.inl h1)]
theorem txS_c {cnt : Int} {i : Nat} {g : Int} {p : List Int × Bool} (h1 : ¬ (i : Int) ≤ cnt) (h2 : g ≠ 0) : txS cnt i g p = (p.1, false) := by unfold txS; rw [if_neg (fun h => h1 h.1), if_pos (.inr h2)]
theorem txS_d {cnt : Int} {i : Nat} {g : Int} {p : List Int × Bool} (h1 : ¬ (i : Int) ≤ cnt) (h2 : g = 0) : txS cnt i g p = p := by unfold txS; rw [if_neg (fun h => h1 h.1), if_neg (fun h => h.elim h1 (fun h => h h2))]
theorem gN_ran {f : List Int} (h : ∀ x ∈ f, 0 ≤ x ∧ x ≤ 255) (i : Nat) : 0 ≤ gN f i ∧ gN f i ≤ 15 := by
  have hx : 0 ≤ f.getD (i / 2) 0 ∧ f.getD (i / 2) 0 ≤ 255 := by
    rcases Nat.lt_or_ge (i / 2) f.length with h1 | h1
    · rw [List.getD_eq_getElem?_getD, List.getElem?_eq_getElem h1]; exact h _ (List.getElem_mem h1)
    · rw [List.getD_eq_getElem?_getD, List.getElem?_eq_none h1]; exact ⟨Int.le_refl _, by decide⟩
  unfold gN
  split <;> omega
theorem gr_own {a b c : World} {g : Nat} {row : Option Nat} (h : a.grownBy b (some g)) (k : b.grownBy c row) (hr : ∀ q, row = some q → a.heap.size ≤ q) : a.grownBy c (some g) :=
  ⟨k.os.trans h.os, k.tape.trans h.tape, k.output.trans h.output, Nat.le_trans h.size k.size, fun i hi hne => (k.block i (Nat.lt_of_lt_of_le hi h.size) (fun e => by have := hr i e.symm; omega)).trans (h.block i hi hne)⟩
theorem own_snoc {w : World} {base : Nat} {v : Value} {l : List Int} {x : Int} (h : w.ownsRow base 5 1 v (l.length + 1) (C8 l ++ C8 [x])) (hl : ∀ y ∈ l, 0 ≤ y ∧ y ≤ 255) (h0 : 0 ≤ x) (h1 : x ≤ 255) : Own w base v (l ++ [x]) :=
  own_app h rfl rfl hl (fun y hy => by obtain rfl : y = x := by simpa using hy
                                       exact ⟨h0, h1⟩)
theorem or_step (a b : Bool) : (a || !b) = (a || !b) := rfl
theorem strOf_app (a b : List Int) : strOfNums (a ++ b) = strOfNums a ++ strOfNums b := by
  apply ByteArray.ext
  rw [ByteArray.data_append]
  simp [strOfNums]
theorem str_nil : strOfNums [] = ByteArray.empty := rfl
theorem str_one (g : Int) : strOfNums [48 + g] = ⟨#[UInt8.ofNat (48 + g).toNat]⟩ := rfl
set_option maxRecDepth 100000 in
set_option maxHeartbeats 16000000 in
theorem phone8_any {w : World} {g b o n c : Nat} {l : List Int} {fl : Bool} (h : RdS w g b o n c l fl) (hs : 8 ≤ n) :
    Calls Try.prog 42 #[.pointer (some ⟨g, 0, none⟩)] w fun e w' => e = .returned (.string (strOfNums (txP (l.take 8) 15).1)) ∧ TakeOut w g b o n c 8 l (fl || !(txP (l.take 8) 15).2) w' := by
  obtain ⟨i0, hi0, hz0, hz1, hz2⟩ := info_parts byteInfo
  have HT := Lib.hid (take_is 8 8 rfl h hs)
  have hlen := h.byt.len
  have hbg := h.ne
  have HBG := Lib.hid hbg
  have HGL := Lib.hid h.lt
  have HBN := Lib.hid h.bin
  obtain ⟨f, hf⟩ : ∃ f, l.take 8 = f := ⟨_, rfl⟩
  have hfl : f.length = 8 := by rw [← hf, List.length_take]; omega
  have hfr : ∀ x ∈ f, 0 ≤ x ∧ x ≤ 255 := fun x hx => h.byt.ran x (by rw [← hf] at hx; exact List.mem_of_mem_take hx)
  rw [hf] at HT ⊢
  have HGN := Lib.hid (fun i => gN_ran hfr i)
  have HXR := Lib.hid (tx_ran f (fun i => (gN_ran hfr i).1))
  have HXL := Lib.hid (tx_len f)
  have HFL := Lib.hid hfl
  obtain ⟨x0, hx0⟩ : ∃ x, f[0]? = some x := ⟨_, List.getElem?_eq_getElem (by omega)⟩
  have hx0r := hfr x0 (List.mem_of_getElem? hx0)
  have HX0 := Lib.hid hx0
  obtain ⟨cnt, hcnt⟩ : ∃ cnt, cN f = cnt := ⟨_, rfl⟩
  have hc16 : x0 / 16 = cnt := by rw [← hcnt]; unfold cN; rw [List.getD_eq_getElem?_getD, hx0]; rfl
  have hcr : 0 ≤ cnt ∧ cnt ≤ 15 := by omega
  obtain ⟨cr0, cr1⟩ := hcr
  have HCN := Lib.hid hcnt
  have hsz : g < w.heap.size := h.lt
  clear h hs hf hfl hfr hx0 hcnt hlen hsz hbg
  go_enter Try.func42, Try.ntmps42
  go_wp2_with (go_at_call 43; (with_reducible refine HT.out.mono ?_); rintro e w1 ⟨rfl, ht1, y1⟩; have HT1 := Lib.hid ht1.1; have HG1 := Lib.hid ht1.2; have HY1 := Lib.hid y1; have hcx : w1.cell? ⟨b, o, none⟩ = some (.int .u8 x0) := (by obtain ⟨b', o', x', e1, e2, e3, -⟩ := y1.at (k := 0) (by omega); injection e1 with e1; injection e1 with e4 e5 e6; subst e4 e5; rw [HX0.out] at e2; injection e2 with e2; subst e2; exact e3); clear ht1 y1)
  have HO0 : Hid (Own w1 w.heap.size (.slice none 0 0) (txP f 0).1) := Lib.hid (own_none _ _)
  have HR0 : Hid (RdS w1 g b (o + 8) (n - 8) (c - 8) (l.drop 8) (fl || !(txP f 0).2)) := Lib.hid (by have := HT1.out; simpa [txP] using this)
  clear hc16 hcx
  go_loopw [5, 6] (fun v iv wr => ∃ k : Nat, iv = .int .i64 ((k + 1 : Nat) : Int) ∧ k ≤ 15 ∧ Hid (Own wr w.heap.size v (txP f k).1) ∧ Hid (RdS wr g b (o + 8) (n - 8) (c - 8) (l.drop 8) (fl || !(txP f k).2)) ∧ Hid (w.grownBy wr (some g)) ∧ Hid (Byt wr (some ⟨b, o, none⟩) 8 8 f)) (fun _ iv _ => 17 - (intOf iv).toNat)
  case atStart => exact ⟨0, rfl, by omega, HO0, HR0, HG1, HY1⟩
  case round =>
    obtain ⟨k, rfl, hk, HO, HR, HG, HY⟩ := hrel
    by_cases hlt : k < 15
    · obtain ⟨I, hI⟩ : ∃ I, k + 1 = I := ⟨_, rfl⟩
      have HI := Lib.hid hI
      rw [hI]
      have hI0 : (0 : Int) ≤ (I : Int) := by omega
      have hI16 : (I : Int) < 16 := by omega
      obtain ⟨q, hq⟩ : ∃ q, I / 2 = q := ⟨_, rfl⟩
      have hqi : (I : Int) / 2 = (q : Int) := by omega
      have hq8 : (q : Int) < 8 := by omega
      have hq0 : (0 : Int) ≤ (q : Int) := by omega
      obtain ⟨b', o', x, e1, e2, e3, -⟩ := HY.out.at (k := q) (by omega)
      injection e1 with e1
      injection e1 with e4 e5 e6
      subst e4 e5
      have hxr := HY.out.ran x (List.mem_of_getElem? e2)
      obtain ⟨r0, r1⟩ := hxr
      have han := and15 x r0 r1
      have hgx : f.getD q 0 = x := by rw [List.getD_eq_getElem?_getD, e2]; rfl
      have HST : Hid (txP f (k + 1) = txS cnt I (gN f I) (txP f k)) := Lib.hid (by rw [← HCN.out, ← HI.out]; rfl)
      have HGI : Hid (gN f I = if I % 2 = 1 then x % 16 else x / 16) := Lib.hid (by unfold gN; rw [hq, hgx])
      obtain ⟨A, m, cc, rfl, HML, hby⟩ := HO.out.bytm
      have HBV := Lib.hid hby
      have hTL : (txP f k).1.length ≤ 15 := Nat.le_trans (HXL.out k) hk
      have HXK := Lib.hid (HXR.out k)
      have HLT : Hid (g < wr.heap.size) := Lib.hid HR.out.lt
      have HRC := Lib.hid HR.out.cells
      obtain ⟨d0, d1, d2, d3⟩ := HRC.out
      obtain ⟨T, hT⟩ : ∃ T, txP f k = T := ⟨_, rfl⟩
      rw [hT] at HO HR HST HML HBV HXK hTL d1
      obtain ⟨TL, tb⟩ := T
      simp only at HO HR HML HBV HXK hTL d1
      clear hI hq e2 hgx hT hby
      by_cases hpar : I % 2 = 1
      · have hp1 : ((I : Int) % 2 == 1) = true := by simp; omega
        have HGG : Hid (gN f I = x % 16) := Lib.hid (by rw [HGI.out, if_pos hpar])
        obtain ⟨G, hG⟩ : ∃ G, x % 16 = G := ⟨_, rfl⟩
        rw [hG] at HGG han
        rw [HGG.out] at HST
        have g0 : 0 ≤ G := by omega
        have g15 : G ≤ 15 := by omega
        clear hG
        by_cases hc : (I : Int) ≤ cnt
        · have dc : decide ((I : Int) ≤ cnt) = true := decide_eq_true hc
          by_cases h9 : G ≤ 9
          · have d9 : decide (G ≤ 9) = true := decide_eq_true h9
            have HNX : Hid (txP f (k + 1) = (TL ++ [48 + G], tb)) := Lib.hid (by rw [HST.out, txS_a hc h9])
            clear hc hpar
            go_wp2_with (at_builtin; refine wpList_append_own _ rfl (.tmp 42) (.tmp 45) 22 rfl w.heap.size 5 i0 (.int .u8 0) 1 1 Try.underlying22 hi0 hz0 hz1 hz2 rfl (by decide) (.slice A m cc) _ (C8 TL) rfl (HO.out.1.alloc _) ⟨wr.heap.size, 0, none⟩ 1 1 (C8 [48 + G]) rfl rfl (cell_one_new _ _ _) (C8_one _) (by unfold maxLen; omega) (by omega) (by have := HG.out.size; simp; omega) ?_; intro v4 w4 z1 z2 _; have HO4 : Hid (Own w4 w.heap.size v4 (TL ++ [48 + G])) := Lib.hid (own_snoc z1 HXK.out (by omega) (by omega)); have hrow : ∀ q, (Value.slice A m cc).ownBlock = some q → w.heap.size ≤ q := (fun q hq => (HO.out.1.lt q hq).1); have HG4 : Hid (w.grownBy w4 (some g)) := Lib.hid (gr_own (gr_own HG.out (World.grownBy_alloc wr _ none) (by simp)) z2 hrow); have HR4 := Lib.hid ((HR.out.grow (World.grownBy_alloc wr (.cells #[.int .u8 (48 + G)] 5) none) (by simp) (by simp)).grow z2 (fun e => by have := hrow g e; have := HGL.out; omega) (fun e => by have := hrow b e; have := HBN.out; omega)); have HY4 := Lib.hid ((HY.out.below (below_lit wr (.cells #[.int .u8 (48 + G)] 5))).grown z2 (fun x hx _ e => by injection hx with hx; subst hx; have := hrow b e; have := HBN.out; omega)); clear z1 z2 hrow)
            go_roundw
            case rel => exact ⟨k + 1, by have := HI.out; first | (rw [← HI.out]; go_num) | go_num, by omega, by rw [HNX.out]; exact HO4, by rw [HNX.out]; exact HR4, HG4, HY4⟩
            case measure => simp [intOf]; omega
          · have d9 : decide (G ≤ 9) = false := decide_eq_false h9
            have HNX : Hid (txP f (k + 1) = (TL, false)) := Lib.hid (by rw [HST.out, txS_b hc h9])
            clear hc hpar h9
            go_wp2_with fail
            go_roundw
            case rel => exact ⟨k + 1, by have := HI.out; first | (rw [← HI.out]; go_num) | go_num, by omega, by rw [HNX.out]; exact Lib.hid ⟨HO.out.1.kept (grown_set1 wr g 1 (.bool true)) (by cases hq : (Value.slice A m cc).ownBlock with | none => exact .inl rfl | some q => exact .inr (fun e => by have := (HO.out.1.lt q hq).1; have := HGL.out; injection e with e; omega)), HO.out.2⟩, by rw [HNX.out]; exact Lib.hid (by have h := HR.out.setF true; simpa using h), Lib.hid (gr_trans HG.out (grown_set1 _ _ _ _)), Lib.hid (byt_grown HY.out (grown_set1 wr g 1 (.bool true)) HBG.out)⟩
            case measure => simp [intOf]; omega
        · have dc : decide ((I : Int) ≤ cnt) = false := decide_eq_false hc
          by_cases hz : G = 0
          · have dz : (G == 0) = true := by simp [hz]
            have HNX : Hid (txP f (k + 1) = (TL, tb)) := Lib.hid (by rw [HST.out, txS_d hc hz])
            clear hc hpar hz
            go_wp2_with fail
            go_roundw
            case rel => exact ⟨k + 1, by have := HI.out; first | (rw [← HI.out]; go_num) | go_num, by omega, by rw [HNX.out]; exact HO, by rw [HNX.out]; exact HR, HG, HY⟩
            case measure => simp [intOf]; omega
          · have dz : (G == 0) = false := by simp [hz]
            have HNX : Hid (txP f (k + 1) = (TL, false)) := Lib.hid (by rw [HST.out, txS_c hc hz])
            clear hc hpar hz
            go_wp2_with fail
            go_roundw
            case rel => exact ⟨k + 1, by have := HI.out; first | (rw [← HI.out]; go_num) | go_num, by omega, by rw [HNX.out]; exact Lib.hid ⟨HO.out.1.kept (grown_set1 wr g 1 (.bool true)) (by cases hq : (Value.slice A m cc).ownBlock with | none => exact .inl rfl | some q => exact .inr (fun e => by have := (HO.out.1.lt q hq).1; have := HGL.out; injection e with e; omega)), HO.out.2⟩, by rw [HNX.out]; exact Lib.hid (by have h := HR.out.setF true; simpa using h), Lib.hid (gr_trans HG.out (grown_set1 _ _ _ _)), Lib.hid (byt_grown HY.out (grown_set1 wr g 1 (.bool true)) HBG.out)⟩
            case measure => simp [intOf]; omega
      · have hp1 : ((I : Int) % 2 == 1) = false := by simp; omega
        have HGG : Hid (gN f I = x / 16) := Lib.hid (by rw [HGI.out, if_neg hpar])
        obtain ⟨G, hG⟩ : ∃ G, x / 16 = G := ⟨_, rfl⟩
        rw [hG] at HGG
        rw [HGG.out] at HST
        have g0 : 0 ≤ G := by omega
        have g15 : G ≤ 15 := by omega
        skip
        by_cases hc : (I : Int) ≤ cnt
        · have dc : decide ((I : Int) ≤ cnt) = true := decide_eq_true hc
          by_cases h9 : G ≤ 9
          · have d9 : decide (G ≤ 9) = true := decide_eq_true h9
            have HNX : Hid (txP f (k + 1) = (TL ++ [48 + G], tb)) := Lib.hid (by rw [HST.out, txS_a hc h9])
            clear hc hpar
            go_wp2_with (at_builtin; refine wpList_append_own _ rfl (.tmp 42) (.tmp 45) 22 rfl w.heap.size 5 i0 (.int .u8 0) 1 1 Try.underlying22 hi0 hz0 hz1 hz2 rfl (by decide) (.slice A m cc) _ (C8 TL) rfl (HO.out.1.alloc _) ⟨wr.heap.size, 0, none⟩ 1 1 (C8 [48 + G]) rfl rfl (cell_one_new _ _ _) (C8_one _) (by unfold maxLen; omega) (by omega) (by have := HG.out.size; simp; omega) ?_; intro v4 w4 z1 z2 _; have HO4 : Hid (Own w4 w.heap.size v4 (TL ++ [48 + G])) := Lib.hid (own_snoc z1 HXK.out (by omega) (by omega)); have hrow : ∀ q, (Value.slice A m cc).ownBlock = some q → w.heap.size ≤ q := (fun q hq => (HO.out.1.lt q hq).1); have HG4 : Hid (w.grownBy w4 (some g)) := Lib.hid (gr_own (gr_own HG.out (World.grownBy_alloc wr _ none) (by simp)) z2 hrow); have HR4 := Lib.hid ((HR.out.grow (World.grownBy_alloc wr (.cells #[.int .u8 (48 + G)] 5) none) (by simp) (by simp)).grow z2 (fun e => by have := hrow g e; have := HGL.out; omega) (fun e => by have := hrow b e; have := HBN.out; omega)); have HY4 := Lib.hid ((HY.out.below (below_lit wr (.cells #[.int .u8 (48 + G)] 5))).grown z2 (fun x hx _ e => by injection hx with hx; subst hx; have := hrow b e; have := HBN.out; omega)); clear z1 z2 hrow)
            go_roundw
            case rel => exact ⟨k + 1, by have := HI.out; first | (rw [← HI.out]; go_num) | go_num, by omega, by rw [HNX.out]; exact HO4, by rw [HNX.out]; exact HR4, HG4, HY4⟩
            case measure => simp [intOf]; omega
          · have d9 : decide (G ≤ 9) = false := decide_eq_false h9
            have HNX : Hid (txP f (k + 1) = (TL, false)) := Lib.hid (by rw [HST.out, txS_b hc h9])
            clear hc hpar h9
            go_wp2_with fail
            go_roundw
            case rel => exact ⟨k + 1, by have := HI.out; first | (rw [← HI.out]; go_num) | go_num, by omega, by rw [HNX.out]; exact Lib.hid ⟨HO.out.1.kept (grown_set1 wr g 1 (.bool true)) (by cases hq : (Value.slice A m cc).ownBlock with | none => exact .inl rfl | some q => exact .inr (fun e => by have := (HO.out.1.lt q hq).1; have := HGL.out; injection e with e; omega)), HO.out.2⟩, by rw [HNX.out]; exact Lib.hid (by have h := HR.out.setF true; simpa using h), Lib.hid (gr_trans HG.out (grown_set1 _ _ _ _)), Lib.hid (byt_grown HY.out (grown_set1 wr g 1 (.bool true)) HBG.out)⟩
            case measure => simp [intOf]; omega
        · have dc : decide ((I : Int) ≤ cnt) = false := decide_eq_false hc
          by_cases hz : G = 0
          · have dz : (G == 0) = true := by simp [hz]
            have HNX : Hid (txP f (k + 1) = (TL, tb)) := Lib.hid (by rw [HST.out, txS_d hc hz])
            clear hc hpar hz
            go_wp2_with fail
            go_roundw
            case rel => exact ⟨k + 1, by have := HI.out; first | (rw [← HI.out]; go_num) | go_num, by omega, by rw [HNX.out]; exact HO, by rw [HNX.out]; exact HR, HG, HY⟩
            case measure => simp [intOf]; omega
          · have dz : (G == 0) = false := by simp [hz]
            have HNX : Hid (txP f (k + 1) = (TL, false)) := Lib.hid (by rw [HST.out, txS_c hc hz])
            clear hc hpar hz
            go_wp2_with fail
            go_roundw
            case rel => exact ⟨k + 1, by have := HI.out; first | (rw [← HI.out]; go_num) | go_num, by omega, by rw [HNX.out]; exact Lib.hid ⟨HO.out.1.kept (grown_set1 wr g 1 (.bool true)) (by cases hq : (Value.slice A m cc).ownBlock with | none => exact .inl rfl | some q => exact .inr (fun e => by have := (HO.out.1.lt q hq).1; have := HGL.out; injection e with e; omega)), HO.out.2⟩, by rw [HNX.out]; exact Lib.hid (by have h := HR.out.setF true; simpa using h), Lib.hid (gr_trans HG.out (grown_set1 _ _ _ _)), Lib.hid (byt_grown HY.out (grown_set1 wr g 1 (.bool true)) HBG.out)⟩
            case measure => simp [intOf]; omega
    · obtain rfl : k = 15 := by omega
      obtain ⟨A, m, cc, rfl, -, hby⟩ := HO.out.bytm
      have cv := byt_conv hby
      clear hby
      go_wp2_with fail
      go_ret
      exact ⟨rfl, HR.out, HG.out⟩
/-- What the reference's text gives. -/
def TxtOut (f : List Int) (w : World) (e : Ending) (w' : World) : Prop :=
  e = .returned (.tuple #[.string (if (txP f 15).2 = true then strOfNums (txP f 15).1 else ByteArray.empty), .bool (txP f 15).2]) ∧ Below w.heap.size w w'
set_option maxRecDepth 100000 in
set_option maxHeartbeats 16000000 in
theorem text_any {w : World} {A : Option Addr} {n c : Nat} {f : List Int} (h : Byt w A n c f) (hs : n = 8) :
    Calls Try.prog 31 #[.slice A n c] w (TxtOut f w) := by
  subst hs
  have hlen := h.len
  have HY0 := Lib.hid h
  have HGN := Lib.hid (fun i => gN_ran h.ran i)
  have HXR := Lib.hid (tx_ran f (fun i => (gN_ran h.ran i).1))
  have HXL := Lib.hid (tx_len f)
  have HRAN := Lib.hid h.ran
  obtain ⟨b, o, x0, rfl, hx0, hcx, hbl⟩ := h.at (k := 0) (by omega)
  have hx0r := h.ran x0 (List.mem_of_getElem? hx0)
  obtain ⟨cnt, hcnt⟩ : ∃ cnt, cN f = cnt := ⟨_, rfl⟩
  have hc16 : x0 / 16 = cnt := by rw [← hcnt]; unfold cN; rw [List.getD_eq_getElem?_getD, hx0]; rfl
  have hcr : 0 ≤ cnt ∧ cnt ≤ 15 := by omega
  obtain ⟨cr0, cr1⟩ := hcr
  have HCN := Lib.hid hcnt
  rw [Nat.add_zero] at hcx
  have HNO : Hid (∀ k, k ≤ 15 → (txP f k).2 = false → ∀ w', Below w.heap.size w w' → TxtOut f w (.returned (.tuple #[.string ByteArray.empty, .bool false])) w') := Lib.hid (fun k hk hf w' hb => by
    have := tx_sticky hf hk
    unfold TxtOut
    rw [this]
    exact ⟨by simp, hb⟩)
  clear h hx0 hcnt hlen
  go_enter Try.func31, Try.ntmps31
  go_wp2_with fail
  clear hc16 hcx
  go_loopw [5, 6] (fun v iv wr => ∃ k : Nat, v = .string (strOfNums (txP f k).1) ∧ iv = .int .i64 ((k + 1 : Nat) : Int) ∧ k ≤ 15 ∧ Hid ((txP f k).2 = true) ∧ Hid (Below w.heap.size w wr)) (fun _ iv _ => 17 - (intOf iv).toNat)
  case atStart => exact ⟨0, rfl, rfl, by omega, Lib.hid rfl, Lib.hid (Below.refl _ _)⟩
  case round =>
    obtain ⟨k, rfl, rfl, hk, HTB, HB⟩ := hrel
    by_cases hlt : k < 15
    · obtain ⟨I, hI⟩ : ∃ I, k + 1 = I := ⟨_, rfl⟩
      have HI := Lib.hid hI
      rw [hI]
      have hI0 : (0 : Int) ≤ (I : Int) := by omega
      have hI16 : (I : Int) ≤ 15 := by omega
      obtain ⟨q, hq⟩ : ∃ q, I / 2 = q := ⟨_, rfl⟩
      have hqi : (I : Int) / 2 = (q : Int) := by omega
      have hq8 : (q : Int) < 8 := by omega
      have hq0 : (0 : Int) ≤ (q : Int) := by omega
      obtain ⟨b', o', x, e1, e2, e3, -⟩ := (HY0.out.below HB.out).at (k := q) (by omega)
      injection e1 with e1
      injection e1 with e4 e5 e6
      subst e4 e5
      have hxr := HRAN.out x (List.mem_of_getElem? e2)
      obtain ⟨r0, r1⟩ := hxr
      have hgx : f.getD q 0 = x := by rw [List.getD_eq_getElem?_getD, e2]; rfl
      have HST : Hid (txP f (k + 1) = txS cnt I (gN f I) (txP f k)) := Lib.hid (by rw [← HCN.out, ← HI.out]; rfl)
      have HGI : Hid (gN f I = if I % 2 = 1 then x % 16 else x / 16) := Lib.hid (by unfold gN; rw [hq, hgx])
      have hTL : (txP f k).1.length ≤ 15 := Nat.le_trans (HXL.out k) hk
      obtain ⟨T, hT⟩ : ∃ T, txP f k = T := ⟨_, rfl⟩
      rw [hT] at HTB HST hTL ⊢
      obtain ⟨TL, tb⟩ := T
      simp only at HTB hTL ⊢
      obtain ⟨S, hS⟩ : ∃ S, strOfNums TL = S := ⟨_, rfl⟩
      have HS := Lib.hid hS
      have hSz : S.size ≤ 15 := by rw [← hS, strOfNums_size]; exact hTL
      rw [hS]
      clear hI hq e2 hgx hT hS
      by_cases hpar : I % 2 = 1
      · have hp1 : ((I : Int) % 2 == 1) = true := by simp; omega
        have HGG : Hid (gN f I = x % 16) := Lib.hid (by rw [HGI.out, if_pos hpar])
        obtain ⟨G, hG⟩ : ∃ G, x % 16 = G := ⟨_, rfl⟩
        rw [hG] at HGG
        rw [HGG.out] at HST
        have g0 : 0 ≤ G := by omega
        have g15 : G ≤ 15 := by omega
        by_cases hc : (I : Int) ≤ cnt
        · have dc : decide ((I : Int) ≤ cnt) = true := decide_eq_true hc
          have dc2 : decide (cnt < (I : Int)) = false := decide_eq_false (by omega)
          by_cases h9 : 9 < G
          · have d9 : decide (9 < G) = true := decide_eq_true h9
            have HNX : Hid ((txP f (k + 1)).2 = false) := Lib.hid (by rw [HST.out, txS_b hc (by omega)])
            clear hc hpar h9
            go_wp2_with fail
            go_ret2
            exact HNO.out (k + 1) (by omega) HNX.out _ HB.out
          · have d9 : decide (9 < G) = false := decide_eq_false h9
            have HNX : Hid (txP f (k + 1) = (TL ++ [48 + G], tb)) := Lib.hid (by rw [HST.out, txS_a hc (by omega)])
            have HNT : Hid (S ++ strOfNums [48 + G] = strOfNums (TL ++ [48 + G])) := Lib.hid (by rw [strOf_app, HS.out])
            have cv : (convert 22 9 (.slice (some ⟨wr.heap.size, 0, none⟩) 1 1)).run Try.prog (wr.alloc (.cells #[.int .u8 (48 + G)] 5)) = .ok (.string (strOfNums [48 + G])) (wr.alloc (.cells #[.int .u8 (48 + G)] 5)) := byt_conv (byt_lit wr [48 + G] (by intro y hy; obtain rfl : y = 48 + G := (by simpa using hy); omega) (by show 1 ≤ maxLen; decide))
            have hs1 : (strOfNums [48 + G]).size = 1 := strOfNums_size _
            obtain ⟨N1, hN1⟩ : ∃ N, strOfNums [48 + G] = N := ⟨_, rfl⟩
            rw [hN1] at cv hs1 HNT
            clear hc hpar h9 hN1
            go_wp2_with fail
            go_roundw
            case rel => exact ⟨k + 1, by rw [HNX.out, ← HNT.out], by have := HI.out; first | (rw [← HI.out]; go_num) | go_num, by omega, by rw [HNX.out]; exact HTB, Lib.hid (HB.out.alloc HB.out.size _)⟩
            case measure => simp [intOf]; omega
        · have dc : decide ((I : Int) ≤ cnt) = false := decide_eq_false hc
          have dc2 : decide (cnt < (I : Int)) = true := decide_eq_true (by omega)
          by_cases hz : G = 0
          · have dz : (G == 0) = true := by simp [hz]
            have dzn : (G != 0) = false := by simp [hz]
            have HNX : Hid (txP f (k + 1) = (TL, tb)) := Lib.hid (by rw [HST.out, txS_d hc hz])
            clear hc hpar hz
            go_wp2_with fail
            go_roundw
            case rel => exact ⟨k + 1, by rw [HNX.out]; simp only; rw [HS.out], by have := HI.out; first | (rw [← HI.out]; go_num) | go_num, by omega, by rw [HNX.out]; exact HTB, HB⟩
            case measure => simp [intOf]; omega
          · have dz : (G == 0) = false := by simp [hz]
            have dzn : (G != 0) = true := by simp [hz]
            have HNX : Hid ((txP f (k + 1)).2 = false) := Lib.hid (by rw [HST.out, txS_c hc hz])
            clear hc hpar hz
            go_wp2_with fail
            go_ret2
            exact HNO.out (k + 1) (by omega) HNX.out _ HB.out
      · have hp1 : ((I : Int) % 2 == 1) = false := by simp; omega
        have HGG : Hid (gN f I = x / 16) := Lib.hid (by rw [HGI.out, if_neg hpar])
        obtain ⟨G, hG⟩ : ∃ G, x / 16 = G := ⟨_, rfl⟩
        rw [hG] at HGG
        rw [HGG.out] at HST
        have g0 : 0 ≤ G := by omega
        have g15 : G ≤ 15 := by omega
        by_cases hc : (I : Int) ≤ cnt
        · have dc : decide ((I : Int) ≤ cnt) = true := decide_eq_true hc
          have dc2 : decide (cnt < (I : Int)) = false := decide_eq_false (by omega)
          by_cases h9 : 9 < G
          · have d9 : decide (9 < G) = true := decide_eq_true h9
            have HNX : Hid ((txP f (k + 1)).2 = false) := Lib.hid (by rw [HST.out, txS_b hc (by omega)])
            clear hc hpar h9
            go_wp2_with fail
            go_ret2
            exact HNO.out (k + 1) (by omega) HNX.out _ HB.out
          · have d9 : decide (9 < G) = false := decide_eq_false h9
            have HNX : Hid (txP f (k + 1) = (TL ++ [48 + G], tb)) := Lib.hid (by rw [HST.out, txS_a hc (by omega)])
            have HNT : Hid (S ++ strOfNums [48 + G] = strOfNums (TL ++ [48 + G])) := Lib.hid (by rw [strOf_app, HS.out])
            have cv : (convert 22 9 (.slice (some ⟨wr.heap.size, 0, none⟩) 1 1)).run Try.prog (wr.alloc (.cells #[.int .u8 (48 + G)] 5)) = .ok (.string (strOfNums [48 + G])) (wr.alloc (.cells #[.int .u8 (48 + G)] 5)) := byt_conv (byt_lit wr [48 + G] (by intro y hy; obtain rfl : y = 48 + G := (by simpa using hy); omega) (by show 1 ≤ maxLen; decide))
            have hs1 : (strOfNums [48 + G]).size = 1 := strOfNums_size _
            obtain ⟨N1, hN1⟩ : ∃ N, strOfNums [48 + G] = N := ⟨_, rfl⟩
            rw [hN1] at cv hs1 HNT
            clear hc hpar h9 hN1
            go_wp2_with fail
            go_roundw
            case rel => exact ⟨k + 1, by rw [HNX.out, ← HNT.out], by have := HI.out; first | (rw [← HI.out]; go_num) | go_num, by omega, by rw [HNX.out]; exact HTB, Lib.hid (HB.out.alloc HB.out.size _)⟩
            case measure => simp [intOf]; omega
        · have dc : decide ((I : Int) ≤ cnt) = false := decide_eq_false hc
          have dc2 : decide (cnt < (I : Int)) = true := decide_eq_true (by omega)
          by_cases hz : G = 0
          · have dz : (G == 0) = true := by simp [hz]
            have dzn : (G != 0) = false := by simp [hz]
            have HNX : Hid (txP f (k + 1) = (TL, tb)) := Lib.hid (by rw [HST.out, txS_d hc hz])
            clear hc hpar hz
            go_wp2_with fail
            go_roundw
            case rel => exact ⟨k + 1, by rw [HNX.out]; simp only; rw [HS.out], by have := HI.out; first | (rw [← HI.out]; go_num) | go_num, by omega, by rw [HNX.out]; exact HTB, HB⟩
            case measure => simp [intOf]; omega
          · have dz : (G == 0) = false := by simp [hz]
            have dzn : (G != 0) = true := by simp [hz]
            have HNX : Hid ((txP f (k + 1)).2 = false) := Lib.hid (by rw [HST.out, txS_c hc hz])
            clear hc hpar hz
            go_wp2_with fail
            go_ret2
            exact HNO.out (k + 1) (by omega) HNX.out _ HB.out
    · obtain rfl : k = 15 := by omega
      have HTT : Hid (∀ w', Below w.heap.size w w' → TxtOut f w (.returned (.tuple #[.string (strOfNums (txP f 15).1), .bool true])) w') := Lib.hid (fun w' hb => by
        unfold TxtOut
        rw [HTB.out, if_pos rfl]
        exact ⟨rfl, hb⟩)
      go_wp2_with fail
      go_ret2
      exact HTT.out _ HB.out
end Go.Proofs.Ytblhpbheejemnaa
