/- Walk: zones.Minimal. -/
import Derived.Test.YtflonakoagjmhaaZnSz
import Derived.Deep.Quiet
namespace Go.Proofs.Ytflonakoagjmhaa.Zn
open Go.RowKit Go.Lib Go.Proofs.Ytflonakoagjmhaa Go.Maps

theorem lessS_P (a b : ByteArray) : lessS a b ↔ ltP a.data.toList b.data.toList := by
  unfold lessS ltP
  rw [less_data]; simp
theorem upP_of {D L : List ByteArray} (hp : D.Perm L) (hn : (L.map fun s => s.data.toList).Nodup) (hs : D.Pairwise fun x y => ¬ lessS y x) : (D.map fun s => s.data.toList).Pairwise ltP := by
  have hd : (D.map fun s => s.data.toList).Nodup := (hp.map _).nodup_iff.2 hn
  rw [List.pairwise_map]
  unfold List.Nodup at hd
  rw [List.pairwise_map] at hd
  refine List.Pairwise.imp₂ ?_ hs hd
  intro x y h hne
  rw [← lessS_P]
  rcases cmp_three x y with ⟨-, h2⟩ | ⟨-, h2⟩ | ⟨-, h2⟩
  · exact h2
  · exact absurd (by rw [h2]) hne
  · exact absurd h2 h
/-- The zone y is z with its kept prefixes, in order. -/
structure MinZ (f : Wd → Option Wd) (z y : Zm) : Prop where
  nm : y.nm = z.nm
  up : (y.ps.map fun s => s.data.toList).Pairwise ltP
  mem : ∀ p, p ∈ y.ps.map (fun s => s.data.toList) ↔ p ∈ z.ps.map (fun s => s.data.toList) ∧ keepB f p z.nm.data.toList = true
  sz : ∀ p ∈ y.ps, p.size ≤ maxLen
  len : y.ps.length ≤ z.ps.length
def ZV.zm (e : ZV) : Zm := ⟨e.nm, e.ps⟩
/-- A zone of the row reads so. -/
structure RowOk (w : World) (e : ZV) : Prop where
  n : e.n = e.ps.length
  le : e.n ≤ e.c
  mx : e.c ≤ maxLen
  ts : TsR w e.A e.ps
  bk : ∀ a, e.A = some a → a.block < w.heap.size
theorem RowOk.keep {w w' : World} {e : ZV} (h : RowOk w e) (hs : w.heap.size ≤ w'.heap.size) (hb : ∀ a, e.A = some a → a.block < w.heap.size → w'.heap[a.block]? = w.heap[a.block]?) : RowOk w' e :=
  ⟨h.n, h.le, h.mx, h.ts.keep hs hb, fun a ha => Nat.lt_of_lt_of_le (h.bk a ha) hs⟩
theorem RowOk.below {w w' : World} {e : ZV} (h : RowOk w e) (hb : Below w.heap.size w w') : RowOk w' e := h.keep hb.size fun a _ hlt => hb.block _ hlt
def Apart (v : Value) (e : ZV) : Prop := ∀ a, e.A = some a → v.ownBlock ≠ some a.block
/-- The minimal list. -/
def MnOut (l : List Zo) (w : World) (e : Ending) (w' : World) : Prop :=
  if ckZ l = 0 then ∃ (A : Option Addr) (c : Nat) (M : List Zm), e = .returned (.slice A M.length c) ∧ M.length ≤ c ∧ c ≤ maxLen ∧ ZsR w' A M ∧ MinL l (zos M) ∧ Fit M ∧ M.length = l.length ∧ Below w.heap.size w w'
  else e = .returned (.slice none 0 0) ∧ Below w.heap.size w w'
def kp (f : Wd → Option Wd) (nm : Wd) (ps : List ByteArray) (j : Nat) : List ByteArray := (ps.take j).filter fun p => keepB f p.data.toList nm
theorem kp_yes {f : Wd → Option Wd} {nm : Wd} {ps : List ByteArray} {j : Nat} (h : j < ps.length) (hk : keepB f (ps.getD j ⟨#[]⟩).data.toList nm = true) : kp f nm ps (j + 1) = kp f nm ps j ++ [ps.getD j ⟨#[]⟩] := by
  have e : ps.getD j ⟨#[]⟩ = ps[j] := by simp [List.getD_eq_getElem?_getD, List.getElem?_eq_getElem h]
  unfold kp
  rw [List.take_succ_eq_append_getElem h, List.filter_append, e]
  rw [e] at hk
  simp [hk]
theorem kp_no {f : Wd → Option Wd} {nm : Wd} {ps : List ByteArray} {j : Nat} (h : j < ps.length) (hk : keepB f (ps.getD j ⟨#[]⟩).data.toList nm = false) : kp f nm ps (j + 1) = kp f nm ps j := by
  have e : ps.getD j ⟨#[]⟩ = ps[j] := by simp [List.getD_eq_getElem?_getD, List.getElem?_eq_getElem h]
  unfold kp
  rw [List.take_succ_eq_append_getElem h, List.filter_append]
  rw [e] at hk
  simp [hk]
theorem kp_len (f : Wd → Option Wd) (nm : Wd) (ps : List ByteArray) (j : Nat) : (kp f nm ps j).length ≤ j := by
  unfold kp
  exact Nat.le_trans (List.length_filter_le _ _) (by rw [List.length_take]; omega)
theorem ext_last (p : ByteArray) : (p.extract 0 (p.size - 1)).data.toList = p.data.toList.dropLast := by
  rw [ext_take, List.dropLast_eq_take]; simp
/-- The kept prefixes in order. -/
theorem minZ_of {f : Wd → Option Wd} {z : Zm} {D : List ByteArray} (hp : D.Perm (kp f z.nm.data.toList z.ps z.ps.length)) (hn : (z.ps.map fun s => s.data.toList).Nodup) (hs : D.Pairwise fun x y => ¬ lessS y x) (hsz : ∀ p ∈ z.ps, p.size ≤ maxLen) : MinZ f z ⟨z.nm, D⟩ := by
  unfold kp at hp
  rw [List.take_length] at hp
  have hsub : (z.ps.filter fun p => keepB f p.data.toList z.nm.data.toList).Sublist z.ps := List.filter_sublist
  refine ⟨rfl, upP_of hp (List.Sublist.nodup (hsub.map _) hn) hs, fun p => ?_, fun p hpm => hsz p (hsub.subset (hp.mem_iff.1 hpm)), ?_⟩
  · simp only [List.mem_map]
    constructor
    · rintro ⟨q, hq, rfl⟩
      have h1 := List.mem_filter.1 (hp.mem_iff.1 hq)
      exact ⟨⟨q, h1.1, rfl⟩, h1.2⟩
    · rintro ⟨⟨q, hq, rfl⟩, hk⟩
      exact ⟨q, hp.mem_iff.2 (List.mem_filter.2 ⟨hq, hk⟩), rfl⟩
  · show D.length ≤ _
    rw [hp.length_eq]; exact hsub.length_le
theorem zos_get {l : List Zm} {j : Nat} (h : j < l.length) : (zos l)[j]'(by rw [zos_len]; exact h) = (l.getD j zm0).zo := by
  unfold zos
  rw [List.getElem_map, List.getD_eq_getElem?_getD, List.getElem?_eq_getElem h]; rfl
theorem minL_fin {l M M0 : List Zm} (hV : Vld (zos l)) (hp : M.Perm M0) (hl : M0.length = l.length) (hm : ∀ j, j < l.length → MinZ (val (pairs (zos l))) (l.getD j zm0) (M0.getD j zm0))
    (hs : M.Pairwise fun x y => Op.bytesLess y.nm.toList x.nm.toList = false) : MinL (zos l) (zos M) := by
  have hn0 : nms (zos M0) = nms (zos l) := by
    unfold nms
    refine List.ext_getElem (by simp [zos_len, hl]) fun j h1 h2 => ?_
    have hj : j < l.length := by simpa [zos_len] using h2
    rw [List.getElem_map, List.getElem_map, zos_get (by omega), zos_get hj]
    show (M0.getD j zm0).nm.data.toList = (l.getD j zm0).nm.data.toList
    rw [(hm j hj).nm]
  have hpn : (nms (zos M)).Perm (nms (zos l)) := by rw [← hn0]; exact (hp.map _).map _
  have hof : ∀ y ∈ zos M, ∃ j, j < l.length ∧ y = (M0.getD j zm0).zo := by
    intro y hy
    obtain ⟨m, hm1, rfl⟩ := List.mem_map.1 hy
    obtain ⟨j, hj, rfl⟩ := List.mem_iff_getElem.1 (hp.mem_iff.1 hm1)
    exact ⟨j, by omega, by rw [List.getD_eq_getElem?_getD, List.getElem?_eq_getElem hj]; rfl⟩
  have hlz : ∀ j, j < l.length → (l.getD j zm0).zo ∈ zos l := fun j hj => by
    rw [← zos_get hj]; exact List.getElem_mem _
  have hasc : (nms (zos M)).Pairwise ltN := by
    refine asc_of (M := nms (zos l)) hpn hV.nd ?_
    unfold nms zos
    rw [List.map_map, List.pairwise_map]
    refine hs.imp ?_
    intro a b h
    rw [less_data] at h; exact h
  refine minL_of hV (List.pairwise_map.1 hasc) (fun n => hpn.mem_iff) (fun y hy => ?_) (fun y hy z hz he p => ?_)
  · obtain ⟨j, hj, rfl⟩ := hof y hy
    exact (hm j hj).up
  · obtain ⟨j, hj, rfl⟩ := hof y hy
    have h1 := hm j hj
    have h2 : z = (l.getD j zm0).zo := nodup_inj hV.nd hz (hlz j hj) (by
      rw [← he]
      show (M0.getD j zm0).nm.data.toList = (l.getD j zm0).nm.data.toList
      rw [h1.nm])
    rw [h2]
    exact h1.mem p
end Go.Proofs.Ytflonakoagjmhaa.Zn
