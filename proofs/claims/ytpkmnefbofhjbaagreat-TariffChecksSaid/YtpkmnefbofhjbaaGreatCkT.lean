/- Tariffs in memory, and what the checker says of them. -/
import Derived.Test.YtpkmnefbofhjbaaGreatCkQ
import Derived.Test.YtpkmnefbofhjbaaGreatBdRC
import Derived.Test.YtpkmnefbofhjbaaGreatZnRz
namespace Go.Proofs.YtpkmnefbofhjbaaGreat.Ck
open Go Go.Lib Go.RowKit Go.Proofs.YtpkmnefbofhjbaaGreat Go.Maps

/-- A rate. -/
structure Rt where
  kd : Int
  zn : ByteArray
  bn : ByteArray
  su : Int
  st : List Sp
def rt0 : Rt := ⟨0, ⟨#[]⟩, ⟨#[]⟩, 0, []⟩
/-- A discount. -/
structure Dc where
  nm : ByteArray
  op : Int
  num : Int
  tx : ByteArray
  us : List Ex
  pt : Int
def dc0 : Dc := ⟨⟨#[]⟩, 0, 0, ⟨#[]⟩, [], 0⟩
def Dc.wh (d : Dc) : Ex := .mk d.op d.num d.tx d.us
/-- Slices that read as lists of rates, and of discounts. -/
def RtR (w : World) (A : Option Addr) (l : List Rt) : Prop := ∀ k, k < l.length → ∃ b off S c, A = some ⟨b, off, none⟩ ∧ b < w.heap.size ∧ w.cell? ⟨b, off + k * 5, none⟩ = some (.int .i64 (l.getD k rt0).kd) ∧ w.cell? ⟨b, off + k * 5 + 1, none⟩ = some (.string (l.getD k rt0).zn) ∧
  w.cell? ⟨b, off + k * 5 + 2, none⟩ = some (.string (l.getD k rt0).bn) ∧ w.cell? ⟨b, off + k * 5 + 3, none⟩ = some (.int .i64 (l.getD k rt0).su) ∧ w.cell? ⟨b, off + k * 5 + 4, none⟩ = some (.slice S (l.getD k rt0).st.length c) ∧
  (l.getD k rt0).st.length ≤ c ∧ c ≤ maxLen ∧ SpR w S (l.getD k rt0).st
def DcR (w : World) (A : Option Addr) (l : List Dc) : Prop := ∀ k, k < l.length → ∃ b off S c d, A = some ⟨b, off, none⟩ ∧ b < w.heap.size ∧ w.cell? ⟨b, off + k * 6, none⟩ = some (.string (l.getD k dc0).nm) ∧ w.cell? ⟨b, off + k * 6 + 1, none⟩ = some (.int .i64 (l.getD k dc0).op) ∧
  w.cell? ⟨b, off + k * 6 + 2, none⟩ = some (.int .i64 (l.getD k dc0).num) ∧ w.cell? ⟨b, off + k * 6 + 3, none⟩ = some (.string (l.getD k dc0).tx) ∧ w.cell? ⟨b, off + k * 6 + 4, none⟩ = some (.slice S (l.getD k dc0).us.length c) ∧ w.cell? ⟨b, off + k * 6 + 5, none⟩ = some (.int .i64 (l.getD k dc0).pt) ∧
  (l.getD k dc0).us.length ≤ c ∧ c ≤ maxLen ∧ XA w d S (l.getD k dc0).us ∧ (l.getD k dc0).nm.size ≤ maxLen ∧ (l.getD k dc0).tx.size ≤ maxLen
theorem RtR.below {w w' : World} {A : Option Addr} {l : List Rt} (h : RtR w A l) (hb : Below w.heap.size w w') : RtR w' A l := fun k hk => by
  obtain ⟨b, off, S, c, e, h1, g0, g1, g2, g3, g4, u1, u2, u3⟩ := h k hk
  exact ⟨b, off, S, c, e, Nat.lt_of_lt_of_le h1 hb.size, (hb.cell (p := ⟨b, off + k * 5, none⟩) h1).trans g0, (hb.cell (p := ⟨b, off + k * 5 + 1, none⟩) h1).trans g1, (hb.cell (p := ⟨b, off + k * 5 + 2, none⟩) h1).trans g2, (hb.cell (p := ⟨b, off + k * 5 + 3, none⟩) h1).trans g3, (hb.cell (p := ⟨b, off + k * 5 + 4, none⟩) h1).trans g4, u1, u2, u3.below hb rfl⟩
theorem DcR.below {w w' : World} {A : Option Addr} {l : List Dc} (h : DcR w A l) (hb : Below w.heap.size w w') : DcR w' A l := fun k hk => by
  obtain ⟨b, off, S, c, d, e, h1, g0, g1, g2, g3, g4, g5, u1, u2, u3, u4⟩ := h k hk
  exact ⟨b, off, S, c, d, e, Nat.lt_of_lt_of_le h1 hb.size, (hb.cell (p := ⟨b, off + k * 6, none⟩) h1).trans g0, (hb.cell (p := ⟨b, off + k * 6 + 1, none⟩) h1).trans g1, (hb.cell (p := ⟨b, off + k * 6 + 2, none⟩) h1).trans g2, (hb.cell (p := ⟨b, off + k * 6 + 3, none⟩) h1).trans g3, (hb.cell (p := ⟨b, off + k * 6 + 4, none⟩) h1).trans g4, (hb.cell (p := ⟨b, off + k * 6 + 5, none⟩) h1).trans g5, u1, u2, u3.below hb, u4⟩
/-- A tariff, with the addresses of its lists. -/
structure Tf where
  nm : ByteArray
  fr : Int
  sp : Bool
  ZA : Option Addr
  zn : Nat
  zc : Nat
  zl : List Zn.Zm
  BA : Option Addr
  bn : Nat
  bc : Nat
  bl : List Bd
  RA : Option Addr
  rn : Nat
  rc : Nat
  rl : List Rt
  DA : Option Addr
  dn : Nat
  dc : Nat
  dl : List Dc
def Tf.cells (t : Tf) : Array Value := #[.string t.nm, .int .i64 t.fr, .bool t.sp, .slice t.ZA t.zn t.zc, .slice t.BA t.bn t.bc, .slice t.RA t.rn t.rc, .slice t.DA t.dn t.dc]
/-- The sizes of a tariff. -/
structure TfN (t : Tf) : Prop where
  nm : t.nm.size ≤ maxLen
  zl : t.zl.length = t.zn
  zc : t.zn ≤ t.zc
  zm : t.zc ≤ maxLen
  bl : t.bl.length = t.bn
  bc : t.bn ≤ t.bc
  bm : t.bc ≤ maxLen
  rl : t.rl.length = t.rn
  rc : t.rn ≤ t.rc
  rm : t.rc ≤ maxLen
  dl : t.dl.length = t.dn
  dc : t.dn ≤ t.dc
  dm : t.dc ≤ maxLen
/-- Its lists in memory. -/
structure TfR (w : World) (t : Tf) : Prop where
  z : Zn.ZsR w t.ZA t.zl
  b : BdR w t.BA t.bl
  r : RtR w t.RA t.rl
  d : DcR w t.DA t.dl
theorem TfR.below {w w' : World} {t : Tf} (h : TfR w t) (hb : Below w.heap.size w w') : TfR w' t := ⟨h.z.below hb, h.b.below hb, h.r.below hb, h.d.below hb⟩
def zkn (l : List Zn.Zm) (x : ByteArray) : Bool := x.toList.isEmpty || l.any (Zn.nmE x.data.toList)
def bkn (l : List Bd) (x : ByteArray) : Bool := x.toList.isEmpty || l.any fun e => decide (e.1 = x)
/-- The error of a rate. -/
def rtV (vk vz vb vs : Bool) (se : Int) : Int := if vk = false then 7 else if vz = false then 11 else if vb = false then 11 else if vs = false then 6 else se
def rtE (zl : List Zn.Zm) (bl : List Bd) (r : Rt) : Int := rtV (inB r.kd 1 4) (zkn zl r.zn) (bkn bl r.bn) (inB r.su 0 1125899906842624) (stepsE r.st)
/-- The error of the k-th discount. -/
def dcV (vn ve : Bool) (s er : Int) (vp : Bool) : Int := if vn = false then 8 else if ve = true then 10 else if er ≠ 0 then er else if s ≠ 3 then 7 else if vp = false then 6 else 0
def dcE (l : List Dc) (k : Nat) : Int := dcV (nmOk (l.getD k dc0).nm) ((l.take k).any fun e => decide (e.nm = (l.getD k dc0).nm)) (sortX 16 (l.getD k dc0).wh).1 (sortX 16 (l.getD k dc0).wh).2 (inB (l.getD k dc0).pt 0 10000)
def ratesE (t : Tf) : Int := if 64 < t.rn then 5 else fstN (fun k => rtE t.zl t.bl (t.rl.getD k rt0)) 0 t.rn
def discE (t : Tf) : Int := if 64 < t.dn then 5 else fstN (dcE t.dl) 0 t.dn
/-- The error of a tariff. -/
def tarV (vn vf : Bool) (ze be re de : Int) : Int := if vn = false then 8 else if vf = false then 15 else if ze ≠ 0 then ze else if be ≠ 0 then be else if re ≠ 0 then re else de
def tarE (t : Tf) : Int := tarV (nmOk t.nm) (inB t.fr 0 12622780799) (Zn.ckZ (Zn.zos t.zl)) (ckB t.bl) (ratesE t) (discE t)
theorem five {w : World} {g : Nat} {t : TypeId} {a b c d e : Value} (h : Blk w g t #[a, b, c, d, e]) : w.cell? ⟨g, 0, none⟩ = some a ∧ w.cell? ⟨g, 1, none⟩ = some b ∧ w.cell? ⟨g, 2, none⟩ = some c ∧ w.cell? ⟨g, 3, none⟩ = some d ∧ w.cell? ⟨g, 4, none⟩ = some e := ⟨h.cell 0, h.cell 1, h.cell 2, h.cell 3, h.cell 4⟩
theorem six {w : World} {g : Nat} {t : TypeId} {a b c d e f : Value} (h : Blk w g t #[a, b, c, d, e, f]) : w.cell? ⟨g, 0, none⟩ = some a ∧ w.cell? ⟨g, 1, none⟩ = some b ∧ w.cell? ⟨g, 2, none⟩ = some c ∧ w.cell? ⟨g, 3, none⟩ = some d ∧ w.cell? ⟨g, 4, none⟩ = some e ∧ w.cell? ⟨g, 5, none⟩ = some f := ⟨h.cell 0, h.cell 1, h.cell 2, h.cell 3, h.cell 4, h.cell 5⟩
theorem seven {w : World} {g : Nat} {t : TypeId} {a b c d e f x : Value} (h : Blk w g t #[a, b, c, d, e, f, x]) : w.cell? ⟨g, 0, none⟩ = some a ∧ w.cell? ⟨g, 1, none⟩ = some b ∧ w.cell? ⟨g, 2, none⟩ = some c ∧ w.cell? ⟨g, 3, none⟩ = some d ∧ w.cell? ⟨g, 4, none⟩ = some e ∧ w.cell? ⟨g, 5, none⟩ = some f ∧ w.cell? ⟨g, 6, none⟩ = some x := ⟨h.cell 0, h.cell 1, h.cell 2, h.cell 3, h.cell 4, h.cell 5, h.cell 6⟩
theorem stepsC {l : List Sp} {v : Int} (h : stepsE l = v) (A : Option Addr) (n c : Nat) (w : World) (hA : SpR w A l) (hn : l.length = n) (hc : n ≤ c) (hm : c ≤ maxLen) :
    Calls Tryz.prog 78 #[.slice A n c] w fun e w' => e = .returned (.int .i64 v) ∧ Below w.heap.size w w' := by
  subst h; exact steps_any A n c l w hA hn hc hm
set_option maxRecDepth 100000 in
set_option maxHeartbeats 16000000 in
theorem checkRate_any (r : Rt) (S : Option Addr) (m c : Nat) (t : Tf) (w : World) (hN : TfN t) (hT : TfR w t) (hS : SpR w S r.st) (hm : r.st.length = m) (hc : m ≤ c) (hcm : c ≤ maxLen) :
    Calls Tryz.prog 36 #[.agg #[.int .i64 r.kd, .string r.zn, .string r.bn, .int .i64 r.su, .slice S m c], .agg t.cells] w fun e w' => e = .returned (.int .i64 (rtE t.zl t.bl r)) ∧ Below w.heap.size w w' := by
  obtain ⟨kd, zn, bn, su, st⟩ := r
  obtain ⟨tnm, tfr, tsp, ZA, zln, zcp, zl, BA, bln, bcp, bl, RA, rn, rc, rl, DA, dn, dc, dl⟩ := t
  simp only [Tf.cells] at hS hm ⊢
  obtain ⟨W1, hW1⟩ : ∃ W, w.alloc (.cells #[.int .i64 kd, .string zn, .string bn, .int .i64 su, .slice S m c] 63) = W := ⟨_, rfl⟩
  obtain ⟨g, hg⟩ : ∃ g, w.heap.size = g := ⟨_, rfl⟩
  have hbr : Blk W1 g 63 #[.int .i64 kd, .string zn, .string bn, .int .i64 su, .slice S m c] := hW1 ▸ hg ▸ Blk.new w _ _
  obtain ⟨W2, hW2⟩ : ∃ W, W1.alloc (.cells #[.string tnm, .int .i64 tfr, .bool tsp, .slice ZA zln zcp, .slice BA bln bcp, .slice RA rn rc, .slice DA dn dc] 32) = W := ⟨_, rfl⟩
  obtain ⟨p, hp⟩ : ∃ p, W1.heap.size = p := ⟨_, rfl⟩
  have hbt : Blk W2 p 32 #[.string tnm, .int .i64 tfr, .bool tsp, .slice ZA zln zcp, .slice BA bln bcp, .slice RA rn rc, .slice DA dn dc] := hW2 ▸ hp ▸ Blk.new W1 _ _
  have hb2 : Below w.heap.size w W2 := hW2 ▸ (hW1 ▸ below_one w _ : Below w.heap.size w W1).alloc (by rw [← hW1]; simp) _
  have hbr2 : Blk W2 g 63 #[.int .i64 kd, .string zn, .string bn, .int .i64 su, .slice S m c] := hW2 ▸ hbr.alloc _
  obtain ⟨vk, hvk⟩ : ∃ v, inB kd 1 4 = v := ⟨_, rfl⟩
  obtain ⟨vs, hvs⟩ : ∃ v, inB su 0 1125899906842624 = v := ⟨_, rfl⟩
  obtain ⟨ze, hze⟩ : ∃ v, zn.toList.isEmpty = v := ⟨_, rfl⟩
  obtain ⟨be, hbe⟩ : ∃ v, bn.toList.isEmpty = v := ⟨_, rfl⟩
  obtain ⟨za, hza⟩ : ∃ v, (zl.take zln).any (Zn.nmE zn.data.toList) = v := ⟨_, rfl⟩
  obtain ⟨ba, hba⟩ : ∃ v, (bl.take bln).any (fun e => decide (e.1 = bn)) = v := ⟨_, rfl⟩
  obtain ⟨se, hse⟩ : ∃ v, stepsE st = v := ⟨_, rfl⟩
  have HV : Hid (rtE zl bl ⟨kd, zn, bn, su, st⟩ = rtV vk (ze || za) (be || ba) vs se) := Lib.hid (by
    have e1 : zl.take zln = zl := by rw [← (show zl.length = zln from hN.zl)]; exact List.take_length
    have e2 : bl.take bln = bl := by rw [← (show bl.length = bln from hN.bl)]; exact List.take_length
    unfold rtE zkn bkn
    rw [hvk, hvs, hze, hbe, hse, ← hza, ← hba, e1, e2])
  have HK := Lib.hid (within_is hvk)
  have HS := Lib.hid (within_is hvs)
  have HZ := Lib.hid (fun (W : World) (h : Below W2.heap.size W2 W) => containsZ_is ZA zln zln zcp zl zn kd su bn (.slice S m c) g W (hT.z.below (hb2.trans (h.mono hb2.size))) hN.zl (Nat.le_refl _) hN.zc hN.zm (hbr2.below h hbr2.lt) za hza)
  have HBB := Lib.hid (fun (W : World) (h : Below W2.heap.size W2 W) => containsR_is BA bln bln bcp bl bn kd su zn (.slice S m c) g W (hT.b.below (hb2.trans (h.mono hb2.size))) hN.bl (Nat.le_refl _) hN.bc hN.bm (hbr2.below h hbr2.lt) ba hba)
  have HST := Lib.hid (fun (W : World) (h : Below W2.heap.size W2 W) => stepsC hse S m c W (hS.below (hb2.trans (h.mono hb2.size)) rfl) hm hc hcm)
  have HB2 := Lib.hid hb2; have HR := Lib.hid hbr2; have HT2 := Lib.hid hbt
  obtain ⟨a0, a1, a2, a3, a4⟩ := five hbr2
  obtain ⟨b0, b1, b2, b3, b4, b5, b6⟩ := seven hbt
  clear hN hT hS hm hbr hb2 hbr2 hbt hvk hvs hza hba hse
  have hex : vk = false ∨ (vk = true ∧ ze = false ∧ za = false) ∨ (vk = true ∧ (ze = true ∨ (ze = false ∧ za = true)) ∧ be = false ∧ ba = false) ∨ (vk = true ∧ (ze = true ∨ (ze = false ∧ za = true)) ∧ (be = true ∨ (be = false ∧ ba = true)) ∧ vs = false) ∨ (vk = true ∧ (ze = true ∨ (ze = false ∧ za = true)) ∧ (be = true ∨ (be = false ∧ ba = true)) ∧ vs = true) := by
    clear HV HK HS HZ HBB a0 a1 a2 a3 a4 b0 b1 b2 b3 b4 b5 b6 hze hbe
    cases vk <;> cases ze <;> cases za <;> cases be <;> cases ba <;> cases vs <;> simp
  rcases hex with rfl | ⟨rfl, rfl, rfl⟩ | ⟨rfl, rfl | ⟨rfl, rfl⟩, rfl, rfl⟩ | ⟨rfl, rfl | ⟨rfl, rfl⟩, rfl | ⟨rfl, rfl⟩, rfl⟩ | ⟨rfl, rfl | ⟨rfl, rfl⟩, rfl | ⟨rfl, rfl⟩, rfl⟩
  all_goals
    go_enter Tryz.func36, Tryz.ntmps36
    go_wp2_with (first
      | (go_at_call 31; (first | (with_reducible refine (HK.out _).mono ?_) | (with_reducible refine (HS.out _).mono ?_)); rintro e w1 ⟨rfl, rfl⟩)
      | (go_at_call 77; (with_reducible refine (HZ.out _ (Below.refl _ _)).mono ?_); rintro e w3 ⟨rfl, hb3⟩; have HB3 := Lib.hid hb3; clear hb3 a0 a1 a2 a3 a4 b0 b1 b2 b3 b4 b5 b6; obtain ⟨a0, a1, a2, a3, a4⟩ := five (HR.out.below HB3.out HR.out.lt); obtain ⟨b0, b1, b2, b3, b4, b5, b6⟩ := seven (HT2.out.below HB3.out HT2.out.lt))
      | (go_at_call 72; (with_reducible refine (HBB.out _ HB3.out).mono ?_); rintro e w4 ⟨rfl, hb4⟩; have HB4 := Lib.hid (HB3.out.trans (hb4.mono HB3.out.size)); clear hb4 a0 a1 a2 a3 a4 b0 b1 b2 b3 b4 b5 b6; obtain ⟨a0, a1, a2, a3, a4⟩ := five (HR.out.below HB4.out HR.out.lt))
      | (go_at_call 72; (with_reducible refine (HBB.out _ (Below.refl _ _)).mono ?_); rintro e w4 ⟨rfl, hb4⟩; have HB4 := Lib.hid hb4; clear hb4 a0 a1 a2 a3 a4 b0 b1 b2 b3 b4 b5 b6; obtain ⟨a0, a1, a2, a3, a4⟩ := five (HR.out.below HB4.out HR.out.lt))
      | (go_at_call 78; (first | (with_reducible refine (HST.out _ HB4.out).mono ?_) | (with_reducible refine (HST.out _ HB3.out).mono ?_) | (with_reducible refine (HST.out _ (Below.refl _ _)).mono ?_)); rintro e w5 ⟨rfl, hb5⟩; have HB5 := Lib.hid (show Below w.heap.size w w5 from (by first | exact HB2.out.trans ((HB4.out.trans (hb5.mono HB4.out.size)).mono HB2.out.size) | exact HB2.out.trans ((HB3.out.trans (hb5.mono HB3.out.size)).mono HB2.out.size) | exact HB2.out.trans (hb5.mono HB2.out.size))); clear hb5 a0 a1 a2 a3 a4))
    go_ret
    first
      | exact ⟨ret_i (by rw [HV.out] <;> rfl), HB5.out⟩
      | exact ⟨ret_i (by rw [HV.out] <;> rfl), HB2.out.trans (HB4.out.mono HB2.out.size)⟩
      | exact ⟨ret_i (by rw [HV.out] <;> rfl), HB2.out.trans (HB3.out.mono HB2.out.size)⟩
      | exact ⟨ret_i (by rw [HV.out] <;> rfl), HB2.out⟩
end Go.Proofs.YtpkmnefbofhjbaaGreat.Ck
