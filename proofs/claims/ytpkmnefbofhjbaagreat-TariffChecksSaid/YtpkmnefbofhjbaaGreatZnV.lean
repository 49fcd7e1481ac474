/- Lists of zones in memory; the prefixes of a zone are added to a map. -/
import Derived.Test.YtpkmnefbofhjbaaGreatZnL
import Derived.Test.YtpkmnefbofhjbaaGreatDigV
import Derived.Lib.Hide
namespace Go.Proofs.YtpkmnefbofhjbaaGreat.Zn
open Go Go.Maps Go.RowKit Go.Proofs.YtpkmnefbofhjbaaGreat

/-- A zone in memory. -/
structure Zm where
  nm : ByteArray
  ps : List ByteArray
def Zm.zo (z : Zm) : Zo := ⟨z.nm.data.toList, z.ps.map fun p => p.data.toList⟩
def zm0 : Zm := ⟨⟨#[]⟩, []⟩
/-- A slice that reads as a list of texts. -/
def TsR (w : World) (P : Option Addr) (l : List ByteArray) : Prop := ∀ k, k < l.length → ∃ b off, P = some ⟨b, off, none⟩ ∧ b < w.heap.size ∧ w.cell? ⟨b, off + k, none⟩ = some (.string (l.getD k ⟨#[]⟩))
theorem TsR.keep {w w' : World} {P : Option Addr} {l : List ByteArray} (h : TsR w P l) (hs : w.heap.size ≤ w'.heap.size) (hb : ∀ a, P = some a → a.block < w.heap.size → w'.heap[a.block]? = w.heap[a.block]?) : TsR w' P l := fun k hk => by
  obtain ⟨b, off, e, h1, h2⟩ := h k hk
  exact ⟨b, off, e, Nat.lt_of_lt_of_le h1 hs, (World.cell?_of_block (w := w) (a := ⟨b, off + k, none⟩) (hb ⟨b, off, none⟩ e h1)).trans h2⟩
theorem TsR.below {w w' : World} {P : Option Addr} {l : List ByteArray} (h : TsR w P l) (hb : Below w.heap.size w w') : TsR w' P l := h.keep hb.size (fun a _ ha => hb.block _ ha)
/-- A slice that reads as a list of zones. -/
def ZsR (w : World) (A : Option Addr) (l : List Zm) : Prop := ∀ k, k < l.length → ∃ b off P c, A = some ⟨b, off, none⟩ ∧ b < w.heap.size ∧ w.cell? ⟨b, off + k * 2, none⟩ = some (.string (l.getD k zm0).nm) ∧ w.cell? ⟨b, off + k * 2 + 1, none⟩ = some (.slice P (l.getD k zm0).ps.length c) ∧
  (l.getD k zm0).ps.length ≤ c ∧ c ≤ maxLen ∧ TsR w P (l.getD k zm0).ps ∧ (∀ a, P = some a → 0 < (l.getD k zm0).ps.length → a.block < w.heap.size)
theorem ZsR.below {w w' : World} {A : Option Addr} {l : List Zm} (h : ZsR w A l) (hb : Below w.heap.size w w') : ZsR w' A l := fun k hk => by
  obtain ⟨b, off, P, c, e, h1, h2, h3, h4, h5, h6, h7⟩ := h k hk
  exact ⟨b, off, P, c, e, Nat.lt_of_lt_of_le h1 hb.size, (hb.cell (p := ⟨b, off + k * 2, none⟩) h1).trans h2, (hb.cell (p := ⟨b, off + k * 2 + 1, none⟩) h1).trans h3, h4, h5, h6.below hb, fun a ha hq => Nat.lt_of_lt_of_le (h7 a ha hq) hb.size⟩
theorem gr_trans {a b c : World} {row : Option Nat} (h : a.grownBy b row) (k : b.grownBy c row) : a.grownBy c row :=
  ⟨k.os.trans h.os, k.tape.trans h.tape, k.output.trans h.output, Nat.le_trans h.size k.size, fun i hi hr => (k.block i (Nat.lt_of_lt_of_le hi h.size) hr).trans (h.block i hi hr)⟩
/-- The prefixes of a zone are added, up to the first error. -/
def adP (nm : Wd) (L : List (Wd × Wd)) : List Wd → Int × List (Wd × Wd)
  | [] => (0, L)
  | p :: t => if numB p = false then (12, L) else if (val L p).isSome = true then (10, L) else adP nm (L ++ [(p, nm)]) t
def adZ (L : List (Wd × Wd)) (z : Zo) : Int × List (Wd × Wd) := if z.ps.length = 0 then (8, L) else if 64 < z.ps.length then (5, L) else adP z.nm L z.ps
def Named (L : List (Wd × Wd)) : Prop := ∀ p n, (p, n) ∈ L → n ≠ []
theorem Named.snoc {L : List (Wd × Wd)} (h : Named L) {p n : Wd} (hn : n ≠ []) : Named (L ++ [(p, n)]) := by
  intro q m hm
  rcases List.mem_append.1 hm with hm | hm
  · exact h q m hm
  · have := List.mem_singleton.1 hm
    injection this with h1 h2
    rw [h2]; exact hn
theorem adP_named {nm : Wd} (hn : nm ≠ []) : ∀ (ps : List Wd) (L : List (Wd × Wd)), Named L → Named (adP nm L ps).2
  | [], L, h => h
  | p :: t, L, h => by
    rw [adP]
    split
    · exact h
    · split
      · exact h
      · exact adP_named hn t _ (h.snoc hn)
theorem adZ_named {L : List (Wd × Wd)} {z : Zo} (hn : z.nm ≠ []) (h : Named L) : Named (adZ L z).2 := by
  unfold adZ
  split
  · exact h
  · split
    · exact h
    · exact adP_named hn _ _ h
def AddOut (L : List (Wd × Wd)) (z : Zo) (b n : Nat) (w : World) (e : Ending) (w' : World) : Prop := e = .returned (.int .i64 (adZ L z).1) ∧ SMap w' b (n + z.ps.length) (adZ L z).2 ∧ w.grownBy w' (some b)
theorem SMap.mono {w : World} {b n m : Nat} {L : List (Wd × Wd)} (h : SMap w b n L) (hn : n ≤ m) : SMap w b m L := by
  obtain ⟨D, h1, h2⟩ := h
  exact ⟨D, h1.mono hn, h2⟩
theorem none_str {v : ByteArray} (h : v.data.toList = []) : v = ⟨#[]⟩ := by
  obtain ⟨⟨l⟩⟩ := v
  have : l = [] := h
  rw [this]
theorem some_str {v : ByteArray} (h : v.data.toList ≠ []) : v.toList.isEmpty = false := by
  rw [ByteArray.toList_eq]
  cases hv : v.data.toList with
  | nil => exact absurd hv h
  | cons x t => rfl
set_option maxRecDepth 100000 in
set_option maxHeartbeats 8000000 in
theorem addPrefixes_any {w : World} {b n c : Nat} {L : List (Wd × Wd)} {z : Zm} {P : Option Addr} (h : SMap w b n L) (hL : Named L) (hnm : z.nm.data.toList ≠ []) (hns : z.nm.size ≤ maxLen) (hP : TsR w P z.ps) (hc : z.ps.length ≤ c) (hcm : c ≤ maxLen) (hPb : ∀ a, P = some a → 0 < z.ps.length → a.block < b) (hsz : ∀ p ∈ z.ps, p.size ≤ maxLen) (hn : n + z.ps.length < maxLen) :
    Calls Tryz.prog 100 #[.map (some b), .agg #[.string z.nm, .slice P z.ps.length c]] w (AddOut L z.zo b n w) := by
  obtain ⟨W, hW⟩ : ∃ W, w.alloc (.cells #[.string z.nm, .slice P z.ps.length c] 57) = W := ⟨_, rfl⟩
  have hWg : w.grownBy W (some b) := hW ▸ World.grownBy_alloc w _ _
  have hWs : W.heap.size = w.heap.size + 1 := by rw [← hW]; simp
  have hblk : W.heap[w.heap.size]? = some (.cells #[.string z.nm, .slice P z.ps.length c] 57 (0, 0)) := by rw [← hW]; exact heap_alloc_new w _
  have hbw := h.lt
  have HM := Lib.hid (hW ▸ h.kept (World.grownBy_alloc w (.cells #[.string z.nm, .slice P z.ps.length c] 57) none) (by simp) : SMap W b n L)
  have HBX : Hid (∀ W', W.grownBy W' (some b) → W'.cell? ⟨w.heap.size, 0, none⟩ = some (.string z.nm) ∧ W'.cell? ⟨w.heap.size, 1, none⟩ = some (.slice P z.ps.length c)) := Lib.hid (fun W' hg => by
    have h1 : W'.heap[w.heap.size]? = some (.cells #[.string z.nm, .slice P z.ps.length c] 57 (0, 0)) := (hg.block w.heap.size (by omega) (fun e => by have := Option.some.inj e; omega)).trans hblk
    exact ⟨cell_of_row W' w.heap.size 0 _ _ (0, 0) h1, cell_of_row W' w.heap.size 1 _ _ (0, 0) h1⟩)
  have HPR : Hid (∀ W', W.grownBy W' (some b) → TsR W' P z.ps) := Lib.hid (fun W' hg => by
    have h1 : w.grownBy W' (some b) := gr_trans hWg hg
    rcases Nat.eq_zero_or_pos z.ps.length with h0 | h0
    · intro k hk; omega
    · exact hP.keep h1.size (fun a ha hlt => h1.block a.block hlt (fun e => by have := hPb a ha h0; have := Option.some.inj e; omega)))
  obtain ⟨k0, k1⟩ := HBX.out W ⟨rfl, rfl, rfl, Nat.le_refl _, fun _ _ _ => rfl⟩
  have HWG := Lib.hid hWg; have HLN := Lib.hid hL; have HNM := Lib.hid hnm; have HSZ := Lib.hid hsz; have HNS := Lib.hid hns; have HHN := Lib.hid hn
  clear hWg hWs hblk h hL hnm hns hP hPb hsz hn hbw
  obtain ⟨m, hm⟩ : ∃ m, z.ps.length = m := ⟨_, rfl⟩
  have hzl : z.zo.ps.length = m := by unfold Zm.zo; simpa using hm
  by_cases h0 : m = 0
  · have HZ : Hid (adZ L z.zo = (8, L)) := Lib.hid (by unfold adZ; rw [if_pos (by rw [hzl]; exact h0)])
    rw [hm] at k1 hW ⊢
    subst h0
    have HMM := Lib.hid hzl
    clear hm hzl
    go_enter Tryz.func100, Tryz.ntmps100
    go_wp2
    go_ret
    exact ⟨by rw [HZ.out] <;> rfl, by rw [HZ.out, HMM.out]; exact HM.out, HWG.out⟩
  have d0 : ((m : Int) == 0) = false := by rw [beq_eq_false_iff_ne]; omega
  by_cases h64 : 64 < m
  · have d1 : decide ((64 : Int) < (m : Int)) = true := decide_eq_true (by omega)
    have HZ : Hid (adZ L z.zo = (5, L)) := Lib.hid (by unfold adZ; rw [if_neg (by rw [hzl]; exact h0), if_pos (by rw [hzl]; exact h64)])
    rw [hm] at k1 hW ⊢
    have HMM := Lib.hid hzl
    clear hm hzl h0 h64
    go_enter Tryz.func100, Tryz.ntmps100
    go_wp2
    go_ret
    exact ⟨by rw [HZ.out] <;> rfl, by rw [HZ.out, HMM.out]; exact HM.out.mono (by omega), HWG.out⟩
  · have d1 : decide ((64 : Int) < (m : Int)) = false := decide_eq_false (by omega)
    have HZ : Hid (adZ L z.zo = adP z.nm.data.toList L (z.ps.map fun p => p.data.toList)) := Lib.hid (by unfold adZ; rw [if_neg (by rw [hzl]; exact h0), if_neg (by rw [hzl]; exact h64)]; rfl)
    have hm64 : m ≤ 64 := by omega
    rw [hm] at k1 hW hc ⊢
    have HMM := Lib.hid hzl; have HMP := Lib.hid hm
    clear hm hzl h0 h64
    go_enter Tryz.func100, Tryz.ntmps100
    go_wp2
    go_loopw [18] (fun iv wr => ∃ (k : Nat) (K : List (Wd × Wd)), iv = .int .i64 k ∧ k ≤ m ∧ Hid (SMap wr b (n + k) K) ∧ Hid (adP z.nm.data.toList K ((z.ps.drop k).map fun p => p.data.toList) = adP z.nm.data.toList L (z.ps.map fun p => p.data.toList)) ∧ Hid (Named K) ∧ Hid (W.grownBy wr (some b))) (fun iv _ => m - (intOf iv).toNat)
    case atStart => exact ⟨0, L, rfl, by omega, HM, Lib.hid rfl, HLN, Lib.hid ⟨rfl, rfl, rfl, Nat.le_refl _, fun _ _ _ => rfl⟩⟩
    case round =>
      obtain ⟨k, K, rfl, hk, HK, HA, HKN, HG⟩ := hrel
      clear k0 k1
      obtain ⟨k0, k1⟩ := HBX.out wr HG.out
      rw [HMP.out] at k1
      by_cases hlt : k < m
      · have hlt' : (k : Int) < (m : Int) := by omega
        have hk0 : (0 : Int) ≤ (k : Int) := by omega
        obtain ⟨bp, off, rfl, -, hcell⟩ := HPR.out wr HG.out k (by rw [HMP.out]; exact hlt)
        obtain ⟨o, ho⟩ : ∃ o, off + k = o := ⟨_, rfl⟩
        obtain ⟨p, hp⟩ : ∃ p, z.ps.getD k ⟨#[]⟩ = p := ⟨_, rfl⟩
        rw [ho, hp] at hcell
        have hdr : z.ps.drop k = p :: z.ps.drop (k + 1) := by
          have h9 : k < z.ps.length := by rw [HMP.out]; exact hlt
          rw [List.drop_eq_getElem_cons h9, ← hp, List.getD_eq_getElem?_getD, List.getElem?_eq_getElem h9]; rfl
        have hmem : p ∈ z.ps := by
          have h9 : k < z.ps.length := by rw [HMP.out]; exact hlt
          rw [← hp, List.getD_eq_getElem?_getD, List.getElem?_eq_getElem h9]; exact List.getElem_mem h9
        have hps := HSZ.out p hmem
        have HVA := Lib.hid (fun W => valid_any p W hps)
        have HPS := Lib.hid hps
        have ha := HA.out
        rw [hdr, List.map_cons, adP] at ha
        clear hp hmem hdr hps
        cases hnb : numB p.data.toList with
        | false =>
          rw [hnb, if_pos rfl] at ha
          rw [hnb] at HVA
          have HAA := Lib.hid ha
          clear ha hnb
          go_wp2_with (go_at_call 112; (with_reducible refine (HVA.out _).mono ?_); rintro e w1 ⟨rfl, rfl⟩)
          go_ret
          exact ⟨by rw [HZ.out, ← HAA.out] <;> rfl, by rw [HZ.out, ← HAA.out, HMM.out]; exact HK.out.mono (by omega), gr_trans HWG.out HG.out⟩
        | true =>
          rw [hnb, if_neg (by decide)] at ha
          rw [hnb] at HVA
          obtain ⟨v, hrun, hv, hvs⟩ := HK.out.look p HPS.out
          cases hvl : val K p.data.toList with
          | some zn =>
            rw [hvl] at hv
            simp only [hvl, Option.isSome_some, if_true] at ha
            have hne : v.data.toList ≠ [] := by rw [hv]; exact HKN.out _ _ (val_mem hvl)
            have e1 := some_str hne
            have HAA := Lib.hid ha
            clear ha hnb hvl hv hvs hne
            go_wp2_with (go_at_call 112; (with_reducible refine (HVA.out _).mono ?_); rintro e w1 ⟨rfl, rfl⟩)
            go_ret
            exact ⟨by rw [HZ.out, ← HAA.out] <;> rfl, by rw [HZ.out, ← HAA.out, HMM.out]; exact HK.out.mono (by omega), gr_trans HWG.out HG.out⟩
          | none =>
            rw [hvl] at hv
            simp only [hvl, Option.isSome_none, Bool.false_eq_true, if_false] at ha
            obtain rfl := none_str hv
            have HAA := Lib.hid ha
            obtain ⟨D, hown, hD⟩ := HK.out
            have HOWN := Lib.hid hown
            have HPUT := Lib.hid (smap_put (p := p.data.toList) (n := z.nm.data.toList) hown.isMap hD hvl)
            clear ha hnb hvl hv hvs hown hD
            go_wp2_with (first
              | (go_at_call 112; (with_reducible refine (HVA.out _).mono ?_); rintro e w1 ⟨rfl, rfl⟩)
              | (at_mapUpdate; refine wpList_mapUpdate_own _ rfl _ _ _ 115 rfl 9 9 strLaw Tryz.underlying115 _ b (n + k) _ rfl HOWN.out (by have := HHN.out; have := HMP.out; omega) _ _ _ rfl rfl (WideMaps.keyOf_string_mk Tryz.underlying9 HPS.out) _ [] (plainElem_string Tryz.underlying9 HNS.out) ?_; intro w4 q1 q2; have HS4 : Hid (SMap w4 b (n + (k + 1)) (K ++ [(p.data.toList, z.nm.data.toList)])) := Lib.hid ⟨_, q1, HPUT.out⟩; have HG4 := Lib.hid (gr_trans HG.out q2); clear q1 q2))
            go_roundw
            case rel => exact ⟨k + 1, _, by go_num, by omega, HS4, Lib.hid HAA.out, Lib.hid (HKN.out.snoc HNM.out), HG4⟩
            case measure => simp [intOf]; omega
      · obtain rfl : m = k := by omega
        have HAA : Hid (adP z.nm.data.toList L (z.ps.map fun p => p.data.toList) = (0, K)) := Lib.hid (by
          rw [← HA.out, List.drop_eq_nil_of_le (by rw [HMP.out]; exact Nat.le_refl _)]; rfl)
        go_wp2
        go_ret
        exact ⟨by rw [HZ.out, HAA.out] <;> rfl, by rw [HZ.out, HAA.out, HMM.out]; exact HK.out, gr_trans HWG.out HG.out⟩
end Go.Proofs.YtpkmnefbofhjbaaGreat.Zn
