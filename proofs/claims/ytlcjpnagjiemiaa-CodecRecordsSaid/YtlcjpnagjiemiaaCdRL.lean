/- Walks: the reference's Numbers; comparing lists. -/
import Derived.Test.YtlcjpnagjiemiaaRows
import Derived.Test.YtlcjpnagjiemiaaCdRT
import Derived.Deep.AppendLies
namespace Go.Proofs.Ytlcjpnagjiemiaa
open Go.RowKit

theorem Byt.grown {w w' : World} {A : Option Addr} {n c : Nat} {l : List Int} {row : Option Nat} (h : Byt w A n c l) (hg : w.grownBy w' row) (hd : ∀ x, A = some x → l ≠ [] → row ≠ some x.block) : Byt w' A n c l := by
  obtain ⟨⟨h1, h2, h3⟩, h4, h5, h6⟩ := h
  refine ⟨⟨h1, h2, ?_⟩, h4, h5, h6⟩
  rcases h3 with h3 | ⟨x, e, h3⟩
  · exact .inl h3
  · refine .inr ⟨x, e, fun j u hu => ?_⟩
    obtain ⟨h7, h8⟩ := h3 j u hu
    have hne : l ≠ [] := by rintro rfl; simp [C8] at hu
    have hx : (x.add j).block = x.block := by unfold Addr.add; split <;> rfl
    exact ⟨Nat.lt_of_lt_of_le h7 hg.size, hg.cell h8 (by rw [hx]; exact fun e' => hd x e hne e'.symm)⟩
theorem Own.far {w : World} {base : Nat} {A : Option Addr} {n c : Nat} {l : List Int} (h : Own w base (.slice A n c) l) : ∀ x, A = some x → l ≠ [] → base ≤ x.block ∧ x.block < w.heap.size := by
  intro x hx hne
  obtain ⟨A', c', hv, _, hg⟩ := own_form h.1
  simp only [Value.slice.injEq] at hv
  obtain ⟨rfl, _, _⟩ := hv
  obtain ⟨g, hg1, hg2, hg3, _⟩ := hg (by cases l with
    | nil => exact absurd rfl hne
    | cons a t => simp)
  rw [hx] at hg1
  obtain rfl := Option.some.inj hg1
  exact ⟨hg2, hg3⟩

/-- What the reference's Numbers gives. -/
def NumsP (l : List Int) (w : World) (e : Ending) (w' : World) : Prop :=
  ∃ u v, e = .returned (.tuple #[u, v, .int .i64 (numsR (l, 0)).2.2]) ∧ OwnI w' w.heap.size u (numsR (l, 0)).1 ∧ (∃ A m c, v = .slice A m c ∧ Byt w' A m c (numsR (l, 0)).2.1) ∧ Below w.heap.size w w'
theorem NumsP.no {l : List Int} {w : World} {e : Ending} {w' : World} (er : Int) (h : numsR (l, 0) = ([], ([], er))) (he : e = .returned (.tuple #[.slice none 0 0, .slice none 0 0, .int .i64 er])) (hb : Below w.heap.size w w') : NumsP l w e w' :=
  ⟨_, _, by rw [h]; exact he, by rw [h]; exact World.ownsRow_nil _ _ _ _, ⟨_, _, _, rfl, by rw [h]; exact byt_nil _⟩, hb⟩

set_option maxRecDepth 100000 in
set_option maxHeartbeats 8000000 in
theorem refNumbers_any {A : Option Addr} {n c : Nat} {l : List Int} {w : World} (hA : Byt w A n c l) (hn : n ≤ 100000000) :
    Calls Try.prog 18 #[.slice A n c] w (NumsP l w) := by
  obtain ⟨i0, hi0, hz0, hz1, hz2⟩ := info_parts intInfo
  have HN := Lib.hid (refLength_any hA hn)
  have hT : numsR (l, 0) = if (lenR (l, 0)).2.2 = 0 then many (lenR (l, 0)).1.toNat (lenR (l, 0)).2.1 else ([], ([], (lenR (l, 0)).2.2)) := rfl
  have hok := lenR_ok (s := (l, 0))
  have hle := lenR_len (l, 0)
  have hl := hA.len
  unfold LenP at HN
  obtain ⟨⟨V, R, er⟩, hS⟩ : ∃ S, lenR (l, 0) = S := ⟨_, rfl⟩
  rw [hS] at HN hT hok hle
  simp only at hT hok hle
  have hRn : R.length ≤ 100000000 := by omega
  have HT := Lib.hid hT; have HRN := Lib.hid hRn
  clear hA hS hT hle hl hn hRn
  by_cases her : er = 0
  · subst her
    obtain ⟨h1, h2, _⟩ := hok rfl
    obtain ⟨N, rfl⟩ := Int.eq_ofNat_of_zero_le h1
    have hNi : (N : Int) ≤ 1048576 := h2
    have HE : Hid (numsR (l, 0) = many N R) := Lib.hid (by rw [HT.out, if_pos rfl, Int.toNat_natCast])
    clear hok h1 h2
    go_enter Try.func18, Try.ntmps18
    go_wp2_with (go_at_call 37; refine HN.out.mono ?_; rintro e w1 ⟨v1, n1, rfl, hn1, ho1, hb1⟩; obtain rfl := hn1 (by first | trivial | rfl); obtain ⟨A1, m1, c1, rfl, hm1, y1⟩ := ho1.bytm; clear hn1 ho1)
    go_loopw [6, 8, 9] (fun r v i wr => ∃ (k : Nat) (zs S : List Int) (A2 : Option Addr) (m2 c2 : Nat), i = .int .i64 (k : Int) ∧ r = .slice A2 m2 c2 ∧ k ≤ N ∧ OwnI wr w.heap.size v zs ∧ zs.length = k ∧ Byt wr A2 m2 c2 S ∧ Hid (S.length ≤ 100000000) ∧
      Hid (∀ x, A2 = some x → S ≠ [] → v.ownBlock ≠ some x.block) ∧ Hid (pre zs (many (N - k) S) = many N R) ∧ Below w.heap.size w wr) (fun _ _ i _ => N - (intOf i).toNat)
    case atStart => exact ⟨0, [], R, A1, m1, c1, rfl, rfl, by omega, World.ownsRow_nil _ _ _ _, rfl, y1, HRN.out, Lib.hid (p := ∀ x, A1 = some x → R ≠ [] → (Value.slice none 0 0).ownBlock ≠ some x.block) (fun x _ _ h => by simp [Value.ownBlock] at h), pre_nil N R, hb1⟩
    case round =>
      obtain ⟨k, zs, S, A2, m2, c2, rfl, rfl, hk, ho, hzl, hy, hsl, hdj, hrel, hb⟩ := hrel
      by_cases hlt : k < N
      · have hlt' : (k : Int) < (N : Int) := by omega
        have hst : N - k = N - (k + 1) + 1 := by omega
        have hnn := refNumber_any hy (by have := hsl.out; have := hy.len; omega)
        unfold NumP at hnn
        have hnl := numR_len2 (S, 0)
        have hps := fun h => pre_step zs S (N - (k + 1)) h
        have hpt := fun h => pre_stop zs S (N - (k + 1)) h
        rw [← hst] at hps hpt
        obtain ⟨⟨V, S2, e2⟩, hS2⟩ : ∃ T, numR (S, 0) = T := ⟨_, rfl⟩
        rw [hS2] at hnn hnl hps hpt
        simp only at hnl hps hpt
        have HNN := Lib.hid hnn; have HNL := Lib.hid hnl; have HPS := Lib.hid hps; have HPT := Lib.hid hpt
        have HO := Lib.hid ho; have HZ := Lib.hid hzl; have HST := Lib.hid hst; have HB := Lib.hid hb
        clear hnn hnl hps hpt ho hzl hy hS2 hst hb
        by_cases he2 : e2 = 0
        · subst he2
          go_wp2_with (first
            | (go_at_call 16; refine HNN.out.mono ?_; rintro e w2 ⟨v2, rfl, ho2, hb2⟩; obtain ⟨A3, m3, c3, rfl, hm3, y3⟩ := ho2.bytm; have HO2 := Lib.hid (HO.out.below hb2); have HF2 := Lib.hid ((show Own w2 wr.heap.size (.slice A3 m3 c3) S2 from ho2).far); have Y3 := Lib.hid y3; have HB2 := Lib.hid hb2; clear ho2 hb2 y3)
            | (at_builtin; refine wpList_append_lies _ rfl (.tmp 36) (.tmp 38) 30 rfl w.heap.size 3 i0 (.int .i64 0) 1 8 Try.underlying30 hi0 hz0 hz1 hz2 rfl (by decide) _ _ _ rfl (World.ownsRow.alloc HO2.out _) ⟨w2.heap.size, 0, none⟩ 1 1 [.int .i64 V] rfl rfl (cell_one_new _ _ _) (by intro u hu; simp at hu; subst hu; rfl) (by decide) (by have := HZ.out; unfold maxLen; omega) (by have := HZ.out; omega) (by have := HB.out.size; have := HB2.out.size; simp; omega) (w2.heap.size + 1) (by simp) ?_; intro g3 c4 w3 hown3 hg3 hlie hgl; have HO3 := Lib.hid hown3; have Y4 := Lib.hid ((Y3.out.below ((Below.refl _ _).alloc (Nat.le_refl _) _)).grown hg3 (fun x hx hne h => by have h1 := HF2.out x hx hne; have h2 := (World.ownsRow.lt HO.out _ h).2; omega)); have HD4 : Hid (∀ x, A3 = some x → S2 ≠ [] → g3 ≠ x.block) := Lib.hid (fun x hx hne h => by have h1 := HF2.out x hx hne; rcases hlie with h2 | h2; (have h3 := (World.ownsRow.lt HO.out _ h2).2; omega); omega); have HB4 : Hid (Below w.heap.size w w3) := Lib.hid ((((HB.out.trans (HB2.out.mono HB.out.size)).alloc (Nat.le_trans HB.out.size HB2.out.size) _).grown hg3 (by have := HB.out.size; have := HB2.out.size; simp; omega) (fun g hg' => (World.ownsRow.lt HO2.out g hg').1))); clear hown3 hg3 hlie hgl))
          go_roundw
          case rel =>
            refine ⟨k + 1, zs ++ [V], S2, _, _, _, by first | rfl | (simp; omega), rfl, by omega, ?_, by simp [HZ.out], Y4.out, ?_, ?_, ?_, HB4.out⟩
            · have := HO3.out
              simpa [OwnI] using this
            · show _ ≤ _
              have := HNL.out; have := hsl.out; omega
            · intro x hx hne h
              exact HD4.out x hx hne (Option.some.inj h)
            · have h5 := HPS.out (by first | trivial | rfl)
              show _ = _
              rw [← h5]; exact hrel.out
          case measure => simp [intOf]; omega
        · have hne2 : (e2 != 0) = true := by simp [he2]
          have HE2 : Hid (many N R = ([], ([], e2))) := Lib.hid (by rw [← hrel.out]; exact HPT.out he2)
          clear hrel
          go_wp2_with (go_at_call 16; refine HNN.out.mono ?_; rintro e w2 ⟨v2, rfl, ho2, hb2⟩)
          go_ret3
          exact NumsP.no e2 (by rw [HE.out, HE2.out]) rfl (HB.out.trans (hb2.mono HB.out.size))
      · obtain rfl : k = N := by omega
        have h3 : many k R = (zs, (S, 0)) := by
          have := hrel.out
          rw [Nat.sub_self] at this
          rw [← this]; simp [many, pre]
        have H3 := Lib.hid h3
        clear hrel h3
        go_wp2
        go_ret3
        exact ⟨_, _, by rw [HE.out, H3.out]; rfl, by rw [HE.out, H3.out]; exact ho, ⟨A2, m2, c2, rfl, by rw [HE.out, H3.out]; exact hy⟩, hb⟩
  · have HE : Hid (numsR (l, 0) = ([], ([], er))) := Lib.hid (by rw [HT.out, if_neg her])
    have h1 : (er != 0) = true := by simp [her]
    clear hok
    go_enter Try.func18, Try.ntmps18
    go_wp2_with (go_at_call 37; refine HN.out.mono ?_; rintro e w1 ⟨v1, n1, rfl, hn1, ho1, hb1⟩; clear hn1)
    go_ret3
    exact NumsP.no er HE.out rfl hb1

/-- Two lists of the same numbers. -/
theorem OwnI.at {w : World} {base : Nat} {v : Value} {zs : List Int} (h : OwnI w base v zs) : ∃ A c, v = .slice A zs.length c ∧ ∀ k, k < zs.length → ∃ g, A = some ⟨g, 0, none⟩ ∧ w.cell? ⟨g, k, none⟩ = some (.int .i64 (zs.getD k 0)) := by
  obtain ⟨A, c, rfl, _, hg⟩ := own_form h
  refine ⟨A, c, rfl, fun k hk => ?_⟩
  obtain ⟨g, rfl, _, _, hc⟩ := hg (by omega)
  exact ⟨g, rfl, by rw [hc k hk]; simp [List.getD, hk]⟩
set_option maxHeartbeats 2000000 in
theorem sameInts_yes {A B : Option Addr} {n c d : Nat} {zs : List Int} {w : World} (hn : n ≤ 100000000) (hA : ∀ k, k < n → ∃ g, A = some ⟨g, 0, none⟩ ∧ w.cell? ⟨g, k, none⟩ = some (.int .i64 (zs.getD k 0))) (hB : ∀ k, k < n → ∃ g, B = some ⟨g, 0, none⟩ ∧ w.cell? ⟨g, k, none⟩ = some (.int .i64 (zs.getD k 0))) :
    Calls Try.prog 19 #[.slice A n c, .slice B n d] w fun e w' => e = .returned (.bool true) ∧ Below w.heap.size w w' := by
  have HA := Lib.hid hA; have HB := Lib.hid hB
  have hni : (n : Int) ≤ 100000000 := by omega
  clear hA hB hn
  go_enter Try.func19, Try.ntmps19
  go_wp2_with fail
  go_loopw [5] (fun iv wr => ∃ k q : Nat, iv = .int .i64 k ∧ k ≤ n ∧ wr = w.drewN q) (fun iv _ => n - (intOf iv).toNat)
  case atStart => exact ⟨0, 0, rfl, by omega, rfl⟩
  case round =>
    obtain ⟨k, q, rfl, hk, rfl⟩ := hrel
    by_cases hlt : k < n
    · obtain ⟨g, rfl, e0⟩ := HA.out k hlt
      obtain ⟨g', rfl, e1⟩ := HB.out k hlt
      have hlt' : (k : Int) < (n : Int) := by omega
      obtain ⟨x, hx⟩ : ∃ x, zs.getD k 0 = x := ⟨_, rfl⟩
      rw [hx] at e0 e1
      clear hx
      go_wp2_with fail
      go_quiet (fail)
      go_wp2_with fail
      go_roundw
      case rel => exact ⟨k + 1, _, by go_num, by omega, rfl⟩
      case measure => simp [intOf]; omega
    · obtain rfl : k = n := by omega
      go_wp2_with fail
      go_ret
      exact ⟨rfl, below_drawn (Below.refl _ _) _⟩
end Go.Proofs.Ytlcjpnagjiemiaa
