/- Walk: holds, in the program; what Number, Text and Holds return. -/
import Derived.Test.YtklpaonhmmfioaaEvH
namespace Go.Proofs.Ytklpaonhmmfioaa.Ck
open Go Go.Lib Go.RowKit Go.Proofs.Ytklpaonhmmfioaa

set_option maxRecDepth 100000 in
set_option maxHeartbeats 16000000 in
/-- What holds gives for a valid expression of the sort truth. -/
theorem holds_any (v : En) : ∀ k, k ≤ 16 → HolC k v := by
  intro k
  induction k with
  | zero => intro _ o m t us A d n c W b h; obtain ⟨j, hj⟩ := sort_pos h; cases hj
  | succ k ih =>
    intro hk op num tx args A d n c w b hs hA hn hc hm ht hv
    have hst := HSt.new w v #[.int .i64 op, .int .i64 num, .string tx, .slice A n c]
    obtain ⟨k0, k1, k2, k3⟩ := four hst.2.2.1
    obtain ⟨d0, d1, d2, d3, d4, d5, d6, d7, d8⟩ := nine hst.2.2.2
    have HS := Lib.hid hst
    have hih := ih (by omega)
    have hcs := sort_cases hs
    clear hst hs ih
    rcases hcs with ⟨-, -, h1, -, -⟩ | ⟨-, -, h1⟩ | ⟨rfl, rfl, -⟩ | ⟨rfl, -, a, rfl, ha⟩ | ⟨hop, -, a, e, rfl, ha, he⟩ | ⟨hop, -, a, e, t, rfl, ha, he, h12⟩ | ⟨hop, -, a, e, rfl, ha, he⟩ | ⟨-, h1, -⟩
    · exact absurd h1 (by decide)
    · exact absurd h1 (by decide)
    · rw [hldV_name] at hv
      subst hv
      clear hA hn hih
      go_enter Try.func30, Try.ntmps30
      go_wp2_with fail
      go_ret
      exact ⟨rfl, HS.out.1⟩
    · rw [hldV_not] at hv
      obtain ⟨x, hx⟩ : ∃ x, hldV v a = x := ⟨_, rfl⟩
      rw [hx] at hv
      subst hv
      have HC0 := Lib.hid (fun W (h : HSt w w.heap.size v #[.int .i64 4, .int .i64 num, .string tx, .slice A n c] W) => opnd_is hih (i := 0) (z := 0) (.inl ⟨rfl, rfl⟩) (e := a) rfl ha hx A d n c w hA hn hc hm w.heap.size W h)
      clear hA hn hih ha hx
      go_enter Try.func30, Try.ntmps30
      go_wp2_with (go_at_call 42; (with_reducible refine (HC0.out _ HS.out).mono ?_); rintro e w1 ⟨rfl, h1⟩; have HS1 := Lib.hid h1; clear h1 k0 k1 k2 k3 d0 d1 d2 d3 d4 d5 d6 d7 d8; obtain ⟨k0, k1, k2, k3⟩ := four HS1.out.2.2.1; obtain ⟨d0, d1, d2, d3, d4, d5, d6, d7, d8⟩ := nine HS1.out.2.2.2)
      go_ret
      exact ⟨rfl, HS1.out.1⟩
    · obtain ⟨x, hx⟩ : ∃ x, hldV v a = x := ⟨_, rfl⟩
      obtain ⟨y, hy⟩ : ∃ y, hldV v e = y := ⟨_, rfl⟩
      have HC0 := Lib.hid (fun W (h : HSt w w.heap.size v #[.int .i64 op, .int .i64 num, .string tx, .slice A n c] W) => opnd_is hih (i := 0) (z := 0) (.inl ⟨rfl, rfl⟩) (e := a) rfl ha hx A d n c w hA hn hc hm w.heap.size W h)
      have HC1 := Lib.hid (fun W (h : HSt w w.heap.size v #[.int .i64 op, .int .i64 num, .string tx, .slice A n c] W) => opnd_is hih (i := 1) (z := 1) (.inr ⟨rfl, rfl⟩) (e := e) rfl he hy A d n c w hA hn hc hm w.heap.size W h)
      rcases hop with rfl | rfl
      · rw [hldV_and, hx, hy] at hv
        subst hv
        clear hA hn hih ha hx he hy
        cases x
        · go_enter Try.func30, Try.ntmps30
          go_wp2_with (go_at_call 42; (with_reducible refine (HC0.out _ HS.out).mono ?_); rintro e w1 ⟨rfl, h1⟩; have HS1 := Lib.hid h1; clear h1 k0 k1 k2 k3 d0 d1 d2 d3 d4 d5 d6 d7 d8; obtain ⟨k0, k1, k2, k3⟩ := four HS1.out.2.2.1; obtain ⟨d0, d1, d2, d3, d4, d5, d6, d7, d8⟩ := nine HS1.out.2.2.2)
          go_ret
          exact ⟨rfl, HS1.out.1⟩
        · go_enter Try.func30, Try.ntmps30
          go_wp2_with (first
            | (go_at_call 42; (with_reducible refine (HC0.out _ HS.out).mono ?_); rintro e w1 ⟨rfl, h1⟩; have HS1 := Lib.hid h1; clear h1 k0 k1 k2 k3 d0 d1 d2 d3 d4 d5 d6 d7 d8; obtain ⟨k0, k1, k2, k3⟩ := four HS1.out.2.2.1; obtain ⟨d0, d1, d2, d3, d4, d5, d6, d7, d8⟩ := nine HS1.out.2.2.2)
            | (go_at_call 42; (with_reducible refine (HC1.out _ HS1.out).mono ?_); rintro e w2 ⟨rfl, h2⟩; have HS2 := Lib.hid h2; clear h2 k0 k1 k2 k3 d0 d1 d2 d3 d4 d5 d6 d7 d8))
          go_ret
          exact ⟨rfl, HS2.out.1⟩
      · rw [hldV_or, hx, hy] at hv
        subst hv
        clear hA hn hih ha hx he hy
        cases x
        · go_enter Try.func30, Try.ntmps30
          go_wp2_with (first
            | (go_at_call 42; (with_reducible refine (HC0.out _ HS.out).mono ?_); rintro e w1 ⟨rfl, h1⟩; have HS1 := Lib.hid h1; clear h1 k0 k1 k2 k3 d0 d1 d2 d3 d4 d5 d6 d7 d8; obtain ⟨k0, k1, k2, k3⟩ := four HS1.out.2.2.1; obtain ⟨d0, d1, d2, d3, d4, d5, d6, d7, d8⟩ := nine HS1.out.2.2.2)
            | (go_at_call 42; (with_reducible refine (HC1.out _ HS1.out).mono ?_); rintro e w2 ⟨rfl, h2⟩; have HS2 := Lib.hid h2; clear h2 k0 k1 k2 k3 d0 d1 d2 d3 d4 d5 d6 d7 d8))
          go_ret
          exact ⟨rfl, HS2.out.1⟩
        · go_enter Try.func30, Try.ntmps30
          go_wp2_with (go_at_call 42; (with_reducible refine (HC0.out _ HS.out).mono ?_); rintro e w1 ⟨rfl, h1⟩; have HS1 := Lib.hid h1; clear h1 k0 k1 k2 k3 d0 d1 d2 d3 d4 d5 d6 d7 d8; obtain ⟨k0, k1, k2, k3⟩ := four HS1.out.2.2.1; obtain ⟨d0, d1, d2, d3, d4, d5, d6, d7, d8⟩ := nine HS1.out.2.2.2)
          go_ret
          exact ⟨rfl, HS1.out.1⟩
    · rw [hldV_cmp v (by omega)] at hv
      obtain rfl : n = 2 := by rw [← hn]; rfl
      obtain ⟨oq, hoq⟩ : ∃ x, ordE v a e = x := ⟨_, rfl⟩
      obtain ⟨o, q⟩ := oq
      have hcv := ordE_cmp ha (.inl hop) hoq
      rw [hv] at hcv
      obtain ⟨r, hr⟩ : ∃ r, agr op o = r := ⟨_, rfl⟩
      rw [hr] at hcv
      subst hcv
      have HCM := Lib.hid (fun W (h : HSt w w.heap.size v #[.int .i64 op, .int .i64 num, .string tx, .slice A 2 c] W) => compare_is (by omega) (op := op) (num := num) (tx := tx) ha he h12 hoq A d c W (hA.below h.1) hc hm)
      have HAG := Lib.hid (fun W => agrees_is hr (by omega) W)
      have e3 : (op == 3) = false := by simp; omega
      have e4 : (op == 4) = false := by simp; omega
      have e5 : (op == 5) = false := by simp; omega
      have e6 : (op == 6) = false := by simp; omega
      clear hA hn hih ha he hoq hr hv hop
      cases q
      · go_enter Try.func30, Try.ntmps30
        go_wp2_with (go_at_call 43; (with_reducible refine (HCM.out _ HS.out).mono ?_); rintro e w1 ⟨rfl, h1⟩; have HS1 := Lib.hid (HS.out.keep h1); clear h1 k0 k1 k2 k3 d0 d1 d2 d3 d4 d5 d6 d7 d8; obtain ⟨k0, k1, k2, k3⟩ := four HS1.out.2.2.1; obtain ⟨d0, d1, d2, d3, d4, d5, d6, d7, d8⟩ := nine HS1.out.2.2.2)
        go_ret
        exact ⟨rfl, HS1.out.1⟩
      · go_enter Try.func30, Try.ntmps30
        go_wp2_with (first
          | (go_at_call 43; (with_reducible refine (HCM.out _ HS.out).mono ?_); rintro e w1 ⟨rfl, h1⟩; have HS1 := Lib.hid (HS.out.keep h1); clear h1 k0 k1 k2 k3 d0 d1 d2 d3 d4 d5 d6 d7 d8; obtain ⟨k0, k1, k2, k3⟩ := four HS1.out.2.2.1; obtain ⟨d0, d1, d2, d3, d4, d5, d6, d7, d8⟩ := nine HS1.out.2.2.2)
          | (go_at_call 44; (with_reducible refine (HAG.out _).mono ?_); rintro e w2 ⟨rfl, rfl⟩))
        go_ret
        exact ⟨rfl, HS1.out.1⟩
    · rw [hldV_cmp v (by omega)] at hv
      obtain rfl : n = 2 := by rw [← hn]; rfl
      obtain ⟨oq, hoq⟩ : ∃ x, ordE v a e = x := ⟨_, rfl⟩
      obtain ⟨o, q⟩ := oq
      have hcv := ordE_cmp ha (.inr ⟨hop, rfl⟩) hoq
      rw [hv] at hcv
      obtain ⟨r, hr⟩ : ∃ r, agr op o = r := ⟨_, rfl⟩
      rw [hr] at hcv
      subst hcv
      have HCM := Lib.hid (fun W (h : HSt w w.heap.size v #[.int .i64 op, .int .i64 num, .string tx, .slice A 2 c] W) => compare_is (by omega) (op := op) (num := num) (tx := tx) ha he (.inl rfl) hoq A d c W (hA.below h.1) hc hm)
      have HAG := Lib.hid (fun W => agrees_is hr (by omega) W)
      have e3 : (op == 3) = false := by simp; omega
      have e4 : (op == 4) = false := by simp; omega
      have e5 : (op == 5) = false := by simp; omega
      have e6 : (op == 6) = false := by simp; omega
      clear hA hn hih ha he hoq hr hv hop
      cases q
      · go_enter Try.func30, Try.ntmps30
        go_wp2_with (go_at_call 43; (with_reducible refine (HCM.out _ HS.out).mono ?_); rintro e w1 ⟨rfl, h1⟩; have HS1 := Lib.hid (HS.out.keep h1); clear h1 k0 k1 k2 k3 d0 d1 d2 d3 d4 d5 d6 d7 d8; obtain ⟨k0, k1, k2, k3⟩ := four HS1.out.2.2.1; obtain ⟨d0, d1, d2, d3, d4, d5, d6, d7, d8⟩ := nine HS1.out.2.2.2)
        go_ret
        exact ⟨rfl, HS1.out.1⟩
      · go_enter Try.func30, Try.ntmps30
        go_wp2_with (first
          | (go_at_call 43; (with_reducible refine (HCM.out _ HS.out).mono ?_); rintro e w1 ⟨rfl, h1⟩; have HS1 := Lib.hid (HS.out.keep h1); clear h1 k0 k1 k2 k3 d0 d1 d2 d3 d4 d5 d6 d7 d8; obtain ⟨k0, k1, k2, k3⟩ := four HS1.out.2.2.1; obtain ⟨d0, d1, d2, d3, d4, d5, d6, d7, d8⟩ := nine HS1.out.2.2.2)
          | (go_at_call 44; (with_reducible refine (HAG.out _).mono ?_); rintro e w2 ⟨rfl, rfl⟩))
        go_ret
        exact ⟨rfl, HS1.out.1⟩
    · exact absurd h1 (by decide)
end Go.Proofs.Ytklpaonhmmfioaa.Ck
