/- Plain facts: the minimal list of a valid one is valid, and says the same. -/
import Derived.Test.YtflonakoagjmhaaZnL2
namespace Go.Proofs.Ytflonakoagjmhaa.Zn
open Go.RowKit Go.Lib Go.Shelf Go.Proofs.Ytflonakoagjmhaa Go.Maps

theorem mem_fsts' {M : List Zo} {p : Wd} : p ∈ fsts M ↔ ∃ z ∈ M, p ∈ z.ps := by
  unfold fsts
  rw [List.mem_map]
  constructor
  · rintro ⟨⟨q, n⟩, h, rfl⟩
    obtain ⟨z, hz, -, hq⟩ := mem_pairs.1 h
    exact ⟨z, hz, hq⟩
  · rintro ⟨z, hz, hp⟩
    exact ⟨(p, z.nm), mem_pairs.2 ⟨z, hz, rfl, hp⟩, rfl⟩
theorem fsts_nodup : ∀ {M : List Zo}, (∀ z ∈ M, z.ps.Nodup) → (M.Pairwise fun a b => ∀ p ∈ a.ps, p ∉ b.ps) → (fsts M).Nodup
  | [], _, _ => List.Pairwise.nil
  | z :: M, h, hd => by
    obtain ⟨h1, h2⟩ := List.pairwise_cons.1 hd
    rw [fsts_cons, List.nodup_append]
    refine ⟨h z (List.mem_cons_self ..), fsts_nodup (fun y hy => h y (List.mem_cons_of_mem _ hy)) h2, ?_⟩
    intro a ha b hb e
    subst e
    obtain ⟨y, hy, hp⟩ := mem_fsts'.1 hb
    exact h1 y hy a ha hp
theorem up_nodup {ps : List Wd} (h : ps.Pairwise ltP) : ps.Nodup := h.imp fun {a b} hab e => by subst e; exact ltP_irr a hab
theorem min_vld {l M : List Zo} (h : Vld l) (hM : MinL l M) (hlen : M.length = l.length) : Vld M := by
  have hmem : ∀ z ∈ M, ∃ y ∈ l, y.nm = z.nm ∧ ∀ q ∈ z.ps, q ∈ y.ps := by
    intro z hz
    obtain ⟨p, hp⟩ := List.exists_mem_of_ne_nil _ (hM.ne z hz)
    obtain ⟨y, hy, he, -, -⟩ := (min_mem h p z.nm).1 ((hM.ps hz p).1 hp)
    refine ⟨y, hy, he, fun q hq => ?_⟩
    obtain ⟨y', hy', he', hq', -⟩ := (min_mem h q z.nm).1 ((hM.ps hz q).1 hq)
    rw [nodup_inj h.nd hy hy' (he.trans he'.symm)]; exact hq'
  refine ⟨by rw [hlen]; exact h.len, fun z hz => ?_, ?_, ?_⟩
  · obtain ⟨y, hy, he, hs⟩ := hmem z hz
    have ok := h.ok y hy
    exact ⟨he ▸ ok.1, hM.ne z hz, Nat.le_trans (nodup_len (up_nodup (hM.up z hz)) hs) ok.2.2.1, fun q hq => ok.2.2.2 q (hs q hq)⟩
  · unfold nms List.Nodup
    rw [List.pairwise_map]
    exact hM.asc.imp fun {a b} hab e => by rw [e] at hab; exact ltN_irr _ hab
  · refine fsts_nodup (fun z hz => up_nodup (hM.up z hz)) (List.Pairwise.imp_of_mem ?_ hM.asc)
    intro a b ha hb hab p hp hq
    have h1 := (hM.ps ha p).1 hp
    rw [(hM.ps hb p).1 hq] at h1
    injection h1 with h1
    rw [h1] at hab
    exact ltN_irr _ hab
theorem min_val {l M : List Zo} (hM : MinL l M) (hv : Vld M) : val (pairs M) = minF (val (pairs l)) := by
  funext s
  apply Option.ext
  intro n
  rw [val_iff hv.uniq, hM.mem]
theorem min_lkM {l M : List Zo} (hM : MinL l M) (hv : Vld M) (s : Wd) : lk (val (pairs M)) s = lk (val (pairs l)) s := by
  rw [min_val hM hv, min_lk]
theorem min_again {l M N : List Zo} (h : Vld l) (hM : MinL l M) (hv : Vld M) (hN : MinL M N) : N = M := by
  refine canon_unique (f := minF (val (pairs l))) (canon_ext hN fun s => ?_) hM
  rw [min_val hM hv]
  exact min_min (val0 h) (valn h) s
theorem fnd_own {l : List Zo} (h : Vld l) {z : Zo} (hz : z ∈ l) {p : Wd} (hp : p ∈ z.ps) : fnd l p = z.nm := by
  have hn := (h.ok z hz).2.2.2 p hp
  rw [fnd_eq h hn]
  have hv := val_of h.uniq (mem_pairs.2 ⟨z, hz, rfl, hp⟩)
  rcases List.eq_nil_or_concat p with rfl | ⟨t, c, rfl⟩
  · exact absurd rfl (num_ne hn)
  · rw [List.concat_eq_append] at hv ⊢
    rw [lk_snoc, hv]
/-- The minimal list of a valid one, in memory. -/
structure Cn (l : List Zm) (w : World) (A : Option Addr) (N c : Nat) (M : List Zm) : Prop where
  len : M.length = N
  n64 : N ≤ 64
  cap : N ≤ c
  mx : c ≤ maxLen
  zs : ZsR w A M
  fit : Fit M
  min : MinL (zos l) (zos M)
  vld : Vld (zos M)
theorem Cn.below {l M : List Zm} {w w' : World} {A : Option Addr} {N c : Nat} (h : Cn l w A N c M) (hb : Below w.heap.size w w') : Cn l w' A N c M := ⟨h.len, h.n64, h.cap, h.mx, h.zs.below hb, h.fit, h.min, h.vld⟩
theorem can_min (A : Option Addr) (n c : Nat) (l : List Zm) (w : World) (hA : ZsR w A l) (hn : l.length = n) (hc : n ≤ c) (hm : c ≤ maxLen) (hf : Fit l) (h0 : ckZ (zos l) = 0) :
    Calls Try.prog 21 #[.slice A n c] w fun e w' => ∃ (A1 : Option Addr) (N c1 : Nat) (M : List Zm), e = .returned (.slice A1 N c1) ∧ Cn l w' A1 N c1 M ∧ Below w.heap.size w w' := by
  refine (minimal_any A n c l w hA hn hc hm hf).mono ?_
  intro e w' h
  unfold MnOut at h
  rw [if_pos h0] at h
  obtain ⟨A1, c1, M, rfl, h1, h2, h3, h4, h5, h6, h7⟩ := h
  have hV := ck_vld.1 h0
  exact ⟨A1, M.length, c1, M, rfl, ⟨rfl, by rw [h6]; exact hV.len, h1, h2, h3, h5, h4, min_vld hV h4 (by rw [zos_len]; exact h6)⟩, h7⟩
theorem Cn.eq {l M : List Zm} {w : World} {A : Option Addr} {N c : Nat} (h : Cn l w A N c M) (h0 : ckZ (zos l) = 0) : eqZ (zos l) (zos M) = true :=
  (eqZ_lk (ck_vld.1 h0) h.vld).2 fun s => (min_lkM h.min h.vld s).symm
theorem Cn.find {l M : List Zm} {w : World} {A : Option Addr} {N c : Nat} (h : Cn l w A N c M) (h0 : ckZ (zos l) = 0) (s V : ByteArray) (b : Bool) (hs : s.size ≤ maxLen) (hV : fnd (zos l) s.data.toList = V.data.toList) (hb : (!V.data.toList.isEmpty) = b) :
    Calls Try.prog 16 #[.slice A N c, .string s] w fun e w' => e = .returned (.tuple #[.string V, .bool b]) ∧ Below w.heap.size w w' :=
  find_is A N c M s V b w h.zs h.len h.cap h.mx h.fit hs (by rw [← fnd_eqZ (h.eq h0)]; exact hV) hb
theorem Cn.check {l M : List Zm} {w : World} {A : Option Addr} {N c : Nat} (h : Cn l w A N c M) :
    Calls Try.prog 11 #[.slice A N c] w fun e w' => e = .returned (.int .i64 0) ∧ Below w.heap.size w w' := by
  refine (check_any A N c M w h.zs h.len h.cap h.mx h.fit).mono ?_
  rintro e w' ⟨rfl, hb⟩
  exact ⟨by rw [ck_vld.2 h.vld], hb⟩
theorem Cn.equal {l M : List Zm} {w : World} {A A1 : Option Addr} {n c N c1 : Nat} (h : Cn l w A1 N c1 M) (hA : ZsR w A l) (hn : l.length = n) (hc : n ≤ c) (hm : c ≤ maxLen) (hf : Fit l) (h0 : ckZ (zos l) = 0) :
    Calls Try.prog 18 #[.slice A n c, .slice A1 N c1] w fun e w' => e = .returned (.bool true) ∧ Below w.heap.size w w' := by
  refine (equal_any A A1 n c N c1 l M w hA hn hc hm hf h.zs h.len h.cap h.mx h.fit).mono ?_
  rintro e w' ⟨rfl, hb⟩
  exact ⟨by rw [h.eq h0], hb⟩
theorem Cn.again {l M : List Zm} {w : World} {A : Option Addr} {N c : Nat} (h : Cn l w A N c M) (h0 : ckZ (zos l) = 0) :
    Calls Try.prog 21 #[.slice A N c] w fun e w' => ∃ (A3 : Option Addr) (c3 : Nat), e = .returned (.slice A3 N c3) ∧ ZsR w' A3 M ∧ Below w.heap.size w w' := by
  refine (can_min A N c M w h.zs h.len h.cap h.mx h.fit (ck_vld.2 h.vld)).mono ?_
  rintro e w' ⟨A1, N1, c1, M1, rfl, h1, hb⟩
  have hM : M1 = M := zos_inj.1 (min_again (ck_vld.1 h0) h.min h.vld h1.min)
  subst hM
  exact ⟨A1, c1, by rw [← h1.len, h.len], h1.zs, hb⟩
theorem Cn.same {l q M K : List Zm} {w : World} {A B : Option Addr} {N c m d : Nat} (h : Cn l w A N c M) (k : Cn q w B m d K) (h0 : ckZ (zos l) = 0) (k0 : ckZ (zos q) = 0) (v : Bool) (hv : eqZ (zos l) (zos q) = v) :
    Calls Try.prog 20 #[.slice A N c, .slice B m d] w fun e w' => e = .returned (.bool v) ∧ Below w.heap.size w w' := by
  refine same_any A B N c m d M K w h.zs h.len (by have := h.n64; omega) h.fit k.zs k.len (by have := k.n64; omega) k.fit v ?_
  rw [← hv, eqZ_lk (ck_vld.1 h0) (ck_vld.1 k0), ← eq_min (ck_vld.1 h0) (ck_vld.1 k0) h.min k.min, zos_inj]
end Go.Proofs.Ytflonakoagjmhaa.Zn
