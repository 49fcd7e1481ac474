/- Walks: the reference's reader, and its PutRecord. -/
import Derived.Test.YtlcjpnagjiemiaaRows
import Derived.Test.YtlcjpnagjiemiaaCdH
import Derived.Test.YtlcjpnagjiemiaaCdRT
import Derived.Test.YtlcjpnagjiemiaaCdRL
namespace Go.Proofs.Ytlcjpnagjiemiaa
open Go.RowKit

/-- What Text gives, and where what remains lies. -/
def TxtF (l : List Int) (w : World) (e : Ending) (w' : World) : Prop :=
  ∃ A m d, e = .returned (.tuple #[.string (txtR (l, 0)).1, .slice A m d, .int .i64 (txtR (l, 0)).2.2]) ∧ Byt w' A m d (txtR (l, 0)).2.1 ∧ (∀ x, A = some x → (txtR (l, 0)).2.1 ≠ [] → w.heap.size ≤ x.block) ∧ Below w.heap.size w w'
theorem TxtF.no {l : List Int} {w : World} {e : Ending} {w' : World} (er : Int) (h : txtR (l, 0) = (ByteArray.empty, ([], er))) (he : e = .returned (.tuple #[.string ByteArray.empty, .slice none 0 0, .int .i64 er])) (hb : Below w.heap.size w w') : TxtF l w e w' :=
  ⟨_, _, _, by rw [h]; exact he, by rw [h]; exact byt_nil _, (by intro x hx; cases hx), hb⟩
set_option maxHeartbeats 4000000 in
theorem refTextF_any {A : Option Addr} {n c : Nat} {l : List Int} {w : World} (hA : Byt w A n c l) (hn : n ≤ 100000000) :
    Calls Try.prog 21 #[.slice A n c] w (TxtF l w) := by
  have HN := Lib.hid (refLength_any hA hn)
  have hT : txtR (l, 0) = if (lenR (l, 0)).2.2 = 0 then (if ((lenR (l, 0)).2.1.length : Int) < (lenR (l, 0)).1 then (ByteArray.empty, ([], 2)) else (strOfNums ((lenR (l, 0)).2.1.take (lenR (l, 0)).1.toNat), ((lenR (l, 0)).2.1.drop (lenR (l, 0)).1.toNat, 0))) else (ByteArray.empty, ([], (lenR (l, 0)).2.2)) := rfl
  have hok := lenR_ok (s := (l, 0))
  unfold LenP at HN
  obtain ⟨⟨V, R, er⟩, hS⟩ : ∃ S, lenR (l, 0) = S := ⟨_, rfl⟩
  rw [hS] at HN hT hok
  simp only at hT hok
  have HT := Lib.hid hT
  clear hA hS hT
  by_cases her : er = 0
  · subst her
    obtain ⟨h1, h2, _⟩ := hok rfl
    obtain ⟨N, rfl⟩ := Int.eq_ofNat_of_zero_le h1
    have hNi : (N : Int) ≤ 1048576 := h2
    clear hok h1 h2
    by_cases hlt : R.length < N
    · have HE : Hid (txtR (l, 0) = (ByteArray.empty, ([], 2))) := Lib.hid (by rw [HT.out, if_pos rfl, if_pos (by omega)])
      have HLT := Lib.hid hlt; clear hlt
      go_enter Try.func21, Try.ntmps21
      go_wp2_with (go_at_call 37; refine HN.out.mono ?_; rintro e w1 ⟨v1, n1, rfl, hn1, ho1, hb1⟩; obtain rfl := hn1 (by first | trivial | rfl); obtain ⟨A1, m1, c1, rfl, hm1, y1⟩ := ho1.bytm; have hcmp : (m1 : Int) < (N : Int) := (by have h1 := HLT.out; have h2 := hm1.out; omega); clear hn1 ho1 y1)
      go_ret3
      exact TxtF.no 2 HE.out rfl hb1
    · have HE : Hid (txtR (l, 0) = (strOfNums (R.take N), (R.drop N, 0))) := Lib.hid (by rw [HT.out, if_pos rfl, if_neg (by omega), Int.toNat_natCast])
      have HLT := Lib.hid hlt; clear hlt
      go_enter Try.func21, Try.ntmps21
      go_wp2_with (go_at_call 37; refine HN.out.mono ?_; rintro e w1 ⟨v1, n1, rfl, hn1, ho1, hb1⟩; obtain rfl := hn1 (by first | trivial | rfl); obtain ⟨A1, m1, c1, rfl, hm1, y1⟩ := ho1.bytm; have hNm : N ≤ m1 := (by have h1 := HLT.out; have h2 := hm1.out; omega); have hcmp : ¬ (m1 : Int) < (N : Int) := (by omega); have hcv := fun q => byt_conv (byt_take (y1.below (below_drawn (Below.refl w1.heap.size w1) q)) N hNm); have hcap := y1.cap; have HF1 := Lib.hid (show Own w1 w.heap.size (.slice A1 m1 c1) R from ho1).far; have Y1 := Lib.hid y1; have HMX := Lib.hid y1.max; clear hn1 ho1 y1)
      by_cases hc : c1 = N
      · subst hc
        go_quiet (fail)
        go_wp2
        go_ret3
        refine ⟨A1, 0, 0, by rw [HE.out]; rfl, ?_, ?_, below_drawn hb1 _⟩
        all_goals rw [HE.out]
        have := hm1.out
        all_goals rw [List.drop_eq_nil_of_le (show R.length ≤ c1 by have := hm1.out; omega)]
        · exact byt_none (by unfold maxLen; omega) (fun _ => rfl)
        · exact fun _ _ h => absurd rfl h
      · go_quiet (fail)
        go_wp2
        go_ret3
        refine ⟨_, m1 - N, c1 - N, by rw [HE.out]; rfl, ?_, ?_, below_drawn hb1 _⟩
        all_goals rw [HE.out]
        · exact (byt_dropm Y1.out N hNm).below (below_drawn (Below.refl _ _) _)
        · intro x hx hne
          cases A1 with
          | none => cases hx
          | some a =>
            obtain rfl := Option.some.inj hx
            rw [show (a.add N).block = a.block by unfold Addr.add; split <;> rfl]
            exact (HF1.out a rfl (fun h => hne (by rw [h]; simp))).1
  · have HE : Hid (txtR (l, 0) = (ByteArray.empty, ([], er))) := Lib.hid (by rw [HT.out, if_neg her])
    have h1 : (er != 0) = true := by simp [her]
    clear hok
    go_enter Try.func21, Try.ntmps21
    go_wp2_with (go_at_call 37; refine HN.out.mono ?_; rintro e w1 ⟨v1, n1, rfl, hn1, ho1, hb1⟩; clear hn1)
    go_ret3
    exact TxtF.no er HE.out rfl hb1

/-- The reader's block: what remains, and the error. -/
def RB (W : World) (g : Nat) (v : Value) (er : Int) : Prop := W.heap[g]? = some (.cells #[v, .int .i64 er] 66 (0, 0))
theorem RB.cell0 {W : World} {g : Nat} {v : Value} {er : Int} (h : RB W g v er) : W.cell? ⟨g, 0, none⟩ = some v := by
  unfold RB at h; simp [World.cell?, h]
theorem RB.cell1 {W : World} {g : Nat} {v : Value} {er : Int} (h : RB W g v er) : W.cell? ⟨g, 1, none⟩ = some (.int .i64 er) := by
  unfold RB at h; simp [World.cell?, h]
theorem RB.fr0 {W : World} {g : Nat} {v : Value} {er : Int} (h : RB W g v er) : W.frozen? ⟨g, 0, none⟩ = false := by
  unfold RB at h; simp [World.frozen?, h]
theorem RB.fr1 {W : World} {g : Nat} {v : Value} {er : Int} (h : RB W g v er) : W.frozen? ⟨g, 1, none⟩ = false := by
  unfold RB at h; simp [World.frozen?, h]
theorem RB.set0 {W : World} {g : Nat} {v : Value} {er : Int} (h : RB W g v er) (u : Value) : RB (W.setCell ⟨g, 0, none⟩ u) g u er := by
  unfold RB at h ⊢
  simp [World.setCell, Array.getElem?_modify, h]
theorem RB.set1 {W : World} {g : Nat} {v : Value} {er : Int} (h : RB W g v er) (x : Int) : RB (W.setCell ⟨g, 1, none⟩ (.int .i64 x)) g v x := by
  unfold RB at h ⊢
  simp [World.setCell, Array.getElem?_modify, h]
theorem RB.below {W W' : World} {g : Nat} {v : Value} {er : Int} (h : RB W g v er) (hb : Below W.heap.size W W') (hg : g < W.heap.size) : RB W' g v er := by
  unfold RB at *; rw [hb.block g hg]; exact h
/-- The reader at work: its block g, the bytes that remain, which lie neither in g nor in h nor in q, and the error. -/
def RS (W : World) (g h q : Nat) (l : List Int) (er : Int) : Prop :=
  ∃ A n c ys, RB W g (.slice A n c) er ∧ Byt W A n c ys ∧ (er = 0 → ys = l) ∧ n ≤ 1000 ∧ (∀ x, A = some x → ys ≠ [] → x.block ≠ g ∧ x.block ≠ h ∧ x.block ≠ q) ∧ g < W.heap.size ∧ h < W.heap.size ∧ q < W.heap.size
/-- What a step of the reader gives. -/
def RSt (W : World) (g h q : Nat) (v : Value) (s : St) (e : Ending) (W' : World) : Prop := e = .returned v ∧ RS W' g h q s.1 s.2 ∧ W.grownBy W' (some g)
theorem grownB {W w1 : World} {g : Nat} (hb : Below W.heap.size W w1) : W.grownBy w1 (some g) := ⟨hb.os, hb.tape, hb.output, hb.size, fun k hk _ => hb.block k hk⟩
theorem grown_tr {a b c : World} {r : Option Nat} (h1 : a.grownBy b r) (h2 : b.grownBy c r) : a.grownBy c r := ⟨h2.os.trans h1.os, h2.tape.trans h1.tape, h2.output.trans h1.output, Nat.le_trans h1.size h2.size, fun k hk hr => (h2.block k (Nat.lt_of_lt_of_le hk h1.size) hr).trans (h1.block k hk hr)⟩
theorem set_two (W : World) (g : Nat) (u v : Value) : W.grownBy ((W.setCell ⟨g, 0, none⟩ u).setCell ⟨g, 1, none⟩ v) (some g) :=
  ⟨rfl, rfl, rfl, by simp [World.setCell], fun k _ hk => (Below.heap_setCell _ _ _ _ (by intro e; exact hk (by rw [e]))).trans (Below.heap_setCell _ _ _ _ (by intro e; exact hk (by rw [e])))⟩
theorem set_one (W : World) (g i : Nat) (v : Value) : W.grownBy (W.setCell ⟨g, i, none⟩ v) (some g) :=
  ⟨rfl, rfl, rfl, by simp [World.setCell], fun k _ hk => Below.heap_setCell _ _ _ _ (by intro e; exact hk (by rw [e]))⟩
/-- Behind the two stores. -/
theorem RS.stored {W w1 : World} {g h q : Nat} {v0 : Value} {e0 er : Int} {A : Option Addr} {m c : Nat} {l : List Int} (hB : RB w1 g v0 e0) (hy : Byt w1 A m c l) (hm : m ≤ 1000) (hfar : ∀ x, A = some x → l ≠ [] → W.heap.size ≤ x.block) (hg : g < W.heap.size) (hh : h < W.heap.size ∧ q < W.heap.size) (hs : W.heap.size ≤ w1.heap.size) :
    RS ((w1.setCell ⟨g, 0, none⟩ (.slice A m c)).setCell ⟨g, 1, none⟩ (.int .i64 er)) g h q l er :=
  ⟨A, m, c, l, (hB.set0 _).set1 _, hy.grown (set_two _ _ _ _) (fun x hx hne e => by have h1 := hfar x hx hne; have h2 := Option.some.inj e; omega), fun _ => rfl, hm, fun x hx hne => by have h1 := hfar x hx hne; omega, by simp [World.setCell]; omega, by simp [World.setCell]; omega, by simp [World.setCell]; omega⟩
theorem txtR_stop {s : St} (h : s.2 ≠ 0) : txtR s = (ByteArray.empty, ([], s.2)) := by
  have hl : lenR s = (0, ([], s.2)) := by rw [lenR, numR_stop h]; simp
  rw [txtR, hl]; simp [h]
theorem RS.any {W : World} {g h q : Nat} {l l' : List Int} {er : Int} (k : RS W g h q l er) (her : er ≠ 0) : RS W g h q l' er := by
  obtain ⟨A, n, c, ys, h1, h2, _, h4⟩ := k
  exact ⟨A, n, c, ys, h1, h2, fun h => absurd h her, h4⟩

set_option maxHeartbeats 4000000 in
theorem rNumber_any {W : World} {g h q : Nat} {l : List Int} {er : Int} (k : RS W g h q l er) :
    Calls Try.prog 43 #[.pointer (some ⟨g, 0, none⟩)] W (RSt W g h q (.int .i64 (numR (l, er)).1) (numR (l, er)).2) := by
  by_cases her : er = 0
  · subst her
    obtain ⟨A, n, c, ys, hB, hA, hys, hn, hd, hg, hh⟩ := k
    obtain rfl := hys rfl
    have hN := refNumber_any hA (by omega)
    have hle := numR_len2 (ys, 0)
    have hl := hA.len
    unfold NumP at hN
    obtain ⟨⟨V, R, e1⟩, hS⟩ : ∃ S, numR (ys, 0) = S := ⟨_, rfl⟩
    rw [hS] at hN hle
    simp only at hN hle
    rw [hS]
    have c0 := hB.cell0; have c1 := hB.cell1
    have HN := Lib.hid hN; have HB := Lib.hid hB; have HG := Lib.hid hg; have HH := Lib.hid hh
    have HLE : Hid (R.length ≤ 1000) := Lib.hid (by omega)
    clear hN hB hA hys hd hg hh hle hl hS
    go_enter Try.func43, Try.ntmps43
    go_wp2_with (go_at_call 16; refine HN.out.mono ?_; rintro e w1 ⟨v1, rfl, ho1, hb1⟩; obtain ⟨A1, m1, d1, rfl, hm1, y1⟩ := ho1.bytm; have hB1 := HB.out.below hb1 HG.out; have q0 := hB1.cell0; have q1 := hB1.cell1; have f0 := hB1.fr0; have f1 := hB1.fr1; have HB1 := Lib.hid hB1; have Y1 := Lib.hid y1; have HF1 := Lib.hid (show Own w1 W.heap.size (.slice A1 m1 d1) R from ho1).far; have HBE := Lib.hid hb1; clear ho1 hb1 y1 hB1)
    go_ret
    exact ⟨rfl, RS.stored (W := W) HB1.out Y1.out (by have := hm1.out; have := HLE.out; omega) (fun x hx hne => (HF1.out x hx hne).1) HG.out HH.out HBE.out.size, grown_tr (grownB HBE.out) (set_two _ _ _ _)⟩
  · have hs : numR (l, er) = (0, ([], er)) := numR_stop her
    rw [hs]
    have hk := k.any (l' := []) her
    obtain ⟨A, n, c, ys, hB, -⟩ := k
    have c1 := hB.cell1
    have hne : (er != 0) = true := by simp [her]
    have HK := Lib.hid hk
    clear hk hB hs her
    go_enter Try.func43, Try.ntmps43
    go_wp2
    go_ret
    exact ⟨rfl, HK.out, World.grownBy.refl _ _⟩
set_option maxHeartbeats 4000000 in
theorem rText_any {W : World} {g h q : Nat} {l : List Int} {er : Int} (k : RS W g h q l er) :
    Calls Try.prog 44 #[.pointer (some ⟨g, 0, none⟩)] W (RSt W g h q (.string (txtR (l, er)).1) (txtR (l, er)).2) := by
  by_cases her : er = 0
  · subst her
    obtain ⟨A, n, c, ys, hB, hA, hys, hn, hd, hg, hh⟩ := k
    obtain rfl := hys rfl
    have hN := refTextF_any hA (by omega)
    have hle := txtR_len (ys, 0)
    have hl := hA.len
    unfold TxtF at hN
    obtain ⟨⟨V, R, e1⟩, hS⟩ : ∃ S, txtR (ys, 0) = S := ⟨_, rfl⟩
    rw [hS] at hN hle
    simp only at hN hle
    rw [hS]
    have c0 := hB.cell0; have c1 := hB.cell1
    have HN := Lib.hid hN; have HB := Lib.hid hB; have HG := Lib.hid hg; have HH := Lib.hid hh
    have HLE : Hid (R.length ≤ 1000) := Lib.hid (by omega)
    clear hN hB hA hys hd hg hh hle hl hS
    go_enter Try.func44, Try.ntmps44
    go_wp2_with (go_at_call 21; refine HN.out.mono ?_; rintro e w1 ⟨A1, m1, d1, rfl, y1, hf1, hb1⟩; have hB1 := HB.out.below hb1 HG.out; have q0 := hB1.cell0; have q1 := hB1.cell1; have f0 := hB1.fr0; have f1 := hB1.fr1; have HB1 := Lib.hid hB1; have Y1 := Lib.hid y1; have HF1 := Lib.hid hf1; have HBE := Lib.hid hb1; clear hb1 y1 hB1 hf1)
    go_ret
    exact ⟨rfl, RS.stored (W := W) HB1.out Y1.out (by have := Y1.out.len; have := HLE.out; omega) HF1.out HG.out HH.out HBE.out.size, grown_tr (grownB HBE.out) (set_two _ _ _ _)⟩
  · have hs : txtR (l, er) = (ByteArray.empty, ([], er)) := txtR_stop her
    rw [hs]
    have hk := k.any (l' := []) her
    obtain ⟨A, n, c, ys, hB, -⟩ := k
    have c1 := hB.cell1
    have hne : (er != 0) = true := by simp [her]
    have HK := Lib.hid hk
    clear hk hB hs her
    go_enter Try.func44, Try.ntmps44
    go_wp2
    go_ret
    exact ⟨rfl, HK.out, World.grownBy.refl _ _⟩
set_option maxHeartbeats 4000000 in
theorem rTruth_any {W : World} {g h q : Nat} {l : List Int} {er : Int} (k : RS W g h q l er) :
    Calls Try.prog 45 #[.pointer (some ⟨g, 0, none⟩)] W (RSt W g h q (.bool (boolR (l, er)).1) (boolR (l, er)).2) := by
  have hN := rNumber_any k
  unfold boolR
  obtain ⟨⟨V, R, e1⟩, hS⟩ : ∃ S, numR (l, er) = S := ⟨_, rfl⟩
  have herr := numR_err (l, er)
  rw [hS] at hN herr ⊢
  simp only at hN herr ⊢
  have HN := Lib.hid hN
  clear hN hS k
  by_cases he : e1 = 0
  · subst he
    by_cases hin : V < 0 ∨ 1 < V
    · rw [if_pos hin]
      have v0 : (V != 0) = true := by simp; omega
      have v1 : (V != 1) = true := by simp; omega
      have v2 : (V == 1) = false := by simp; omega
      have hd : decide (V = 1) = false := by simp; omega
      rw [hd]
      clear hin hd herr
      go_enter Try.func45, Try.ntmps45
      go_wp2_with (go_at_call 43; refine HN.out.mono ?_; rintro e w1 ⟨rfl, hr, hgr⟩; obtain ⟨A1, n1, c1, ys1, hB1, hr1⟩ := hr; have q0 := hB1.cell0; have q1 := hB1.cell1; have f1 := hB1.fr1; have HB1 := Lib.hid hB1; have HR1 := Lib.hid hr1; have HGR := Lib.hid hgr; clear hB1 hr1 hgr)
      go_ret
      obtain ⟨hy, _, hn, hd, hg, hh⟩ := HR1.out
      exact ⟨rfl, ⟨A1, n1, c1, ys1, HB1.out.set1 _, hy.grown (set_one _ _ _ _) (fun x hx hne e => (hd x hx hne).1 (Option.some.inj e).symm), fun h => absurd h (by decide), hn, hd, by simp [World.setCell]; omega, by simp [World.setCell]; omega, by simp [World.setCell]; omega⟩, grown_tr HGR.out (set_one _ _ _ _)⟩
    · rw [if_neg hin]
      have hV : V = 0 ∨ V = 1 := by omega
      clear hin herr
      rcases hV with rfl | rfl
      · go_enter Try.func45, Try.ntmps45
        go_wp2_with (go_at_call 43; refine HN.out.mono ?_; rintro e w1 ⟨rfl, hr, hgr⟩; have HR := Lib.hid hr; obtain ⟨A1, n1, c1, ys1, hB1, -⟩ := hr; have q1 := hB1.cell1; have HGR := Lib.hid hgr; clear hB1 hgr)
        go_ret
        exact ⟨rfl, HR.out, HGR.out⟩
      · go_enter Try.func45, Try.ntmps45
        go_wp2_with (go_at_call 43; refine HN.out.mono ?_; rintro e w1 ⟨rfl, hr, hgr⟩; have HR := Lib.hid hr; obtain ⟨A1, n1, c1, ys1, hB1, -⟩ := hr; have q1 := hB1.cell1; have HGR := Lib.hid hgr; clear hB1 hgr)
        go_ret
        exact ⟨rfl, HR.out, HGR.out⟩
  · obtain ⟨hV, hR⟩ := herr he
    subst hV hR
    have hne : (e1 == 0) = false := by simp [he]
    rw [if_neg (by omega)]
    clear he
    go_enter Try.func45, Try.ntmps45
    go_wp2_with (go_at_call 43; refine HN.out.mono ?_; rintro e w1 ⟨rfl, hr, hgr⟩; have HR := Lib.hid hr; obtain ⟨A1, n1, c1, ys1, hB1, -⟩ := hr; have q1 := hB1.cell1; have HGR := Lib.hid hgr; clear hB1 hgr)
    go_ret
    exact ⟨rfl, HR.out, HGR.out⟩
end Go.Proofs.Ytlcjpnagjiemiaa
