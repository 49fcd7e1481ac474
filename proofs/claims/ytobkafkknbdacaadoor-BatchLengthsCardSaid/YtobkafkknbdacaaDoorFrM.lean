/- Pure mathematics: the checksum, and the frames of payloads. -/
import Derived.Test.YtobkafkknbdacaaDoorCdM
import Derived.Test.YtobkafkknbdacaaDoorCdB
namespace Go.Proofs.YtobkafkknbdacaaDoor

/-- A step of the checksum. -/
def fstep (s : Nat) (x : Int) : Nat := ((s ^^^ x.toNat) * 16777619) % 4294967296
/-- The checksum from s on. -/
def fnvF (s : Nat) (l : List Int) : Nat := l.foldl fstep s
def fnv (l : List Int) : Nat := fnvF 2166136261 l
theorem fstep_lt (s : Nat) (x : Int) : fstep s x < 4294967296 := Nat.mod_lt _ (by decide)
theorem fnvF_lt : ∀ (l : List Int) (s : Nat), s < 4294967296 → fnvF s l < 4294967296
  | [], s, h => h
  | x :: t, s, _ => by rw [fnvF, List.foldl_cons]; exact fnvF_lt t (fstep s x) (fstep_lt s x)
theorem fnv_lt (l : List Int) : fnv l < 4294967296 := fnvF_lt l _ (by decide)
theorem fnvF_cons (s : Nat) (x : Int) (t : List Int) : fnvF s (x :: t) = fnvF (fstep s x) t := rfl

theorem wrap_u32 (n : Int) : IntKind.u32.wrap n = n % 4294967296 := by
  simp [IntKind.wrap, IntKind.signed, IntKind.bits]
theorem bits_xor_u32_nat (a b : Nat) (ha : a < 4294967296) (hb : b < 4294967296) : bits .xor .u32 (a : Int) (b : Int) = ((a ^^^ b : Nat) : Int) := by
  have hx : a ^^^ b < 2 ^ 32 := Nat.xor_lt_two_pow (by omega) (by omega)
  have h1 : (BitVec.ofInt 32 (a : Int)).toNat = a := by
    rw [BitVec.ofInt_natCast, BitVec.toNat_ofNat]; exact Nat.mod_eq_of_lt (by omega)
  have h2 : (BitVec.ofInt 32 (b : Int)).toNat = b := by
    rw [BitVec.ofInt_natCast, BitVec.toNat_ofNat]; exact Nat.mod_eq_of_lt (by omega)
  show IntKind.u32.wrap ((BitVec.ofInt 32 (a : Int) ^^^ BitVec.ofInt 32 (b : Int)).toNat : Int) = _
  rw [BitVec.toNat_xor, h1, h2, wrap_u32]
  omega
theorem fstep_bits (s : Nat) (x : Int) (hs : s < 4294967296) (h0 : 0 ≤ x) (h1 : x ≤ 255) :
    IntKind.u32.wrap (bits BinOp.xor .u32 (s : Int) x * 16777619) = (fstep s x : Int) := by
  obtain ⟨n, rfl⟩ := Int.eq_ofNat_of_zero_le h0
  rw [bits_xor_u32_nat s n hs (by omega), wrap_u32, fstep, show ((n : Int)).toNat = n by omega]
  omega

theorem bits_or_u32_nat (a b : Nat) (ha : a < 4294967296) (hb : b < 4294967296) : bits .or .u32 (a : Int) (b : Int) = ((a ||| b : Nat) : Int) := by
  have hx : a ||| b < 2 ^ 32 := Nat.or_lt_two_pow (by omega) (by omega)
  have h1 : (BitVec.ofInt 32 (a : Int)).toNat = a := by
    rw [BitVec.ofInt_natCast, BitVec.toNat_ofNat]; exact Nat.mod_eq_of_lt (by omega)
  have h2 : (BitVec.ofInt 32 (b : Int)).toNat = b := by
    rw [BitVec.ofInt_natCast, BitVec.toNat_ofNat]; exact Nat.mod_eq_of_lt (by omega)
  show IntKind.u32.wrap ((BitVec.ofInt 32 (a : Int) ||| BitVec.ofInt 32 (b : Int)).toNat : Int) = _
  rw [BitVec.toNat_or, h1, h2, wrap_u32]
  omega
theorem or_hi (a i b : Nat) (h : b < 2 ^ i) : a * 2 ^ i ||| b = a * 2 ^ i + b := by
  have := Nat.shiftLeft_add_eq_or_of_lt h a
  rw [Nat.shiftLeft_eq] at this
  exact this.symm
theorem or4_nat (a b c d : Nat) (ha : a < 256) (hb : b < 256) (hc : c < 256) (hd : d < 256) :
    bits .or .u32 (bits .or .u32 (bits .or .u32 ((a : Int) * 16777216) ((b : Int) * 65536)) ((c : Int) * 256)) (d : Int) = ((a * 16777216 + b * 65536 + c * 256 + d : Nat) : Int) := by
  have e1 : bits .or .u32 ((a : Int) * 16777216) ((b : Int) * 65536) = ((a * 16777216 + b * 65536 : Nat) : Int) := by
    rw [show (a : Int) * 16777216 = ((a * 16777216 : Nat) : Int) by omega, show (b : Int) * 65536 = ((b * 65536 : Nat) : Int) by omega, bits_or_u32_nat _ _ (by omega) (by omega)]
    congr 1
    exact or_hi a 24 (b * 65536) (by omega)
  have e2 : bits .or .u32 ((a * 16777216 + b * 65536 : Nat) : Int) ((c : Int) * 256) = ((a * 16777216 + b * 65536 + c * 256 : Nat) : Int) := by
    rw [show (c : Int) * 256 = ((c * 256 : Nat) : Int) by omega, bits_or_u32_nat _ _ (by omega) (by omega)]
    congr 1
    have := or_hi (a * 256 + b) 16 (c * 256) (by omega)
    rw [show (a * 256 + b) * 2 ^ 16 = a * 16777216 + b * 65536 by omega] at this
    exact this
  have e3 : bits .or .u32 ((a * 16777216 + b * 65536 + c * 256 : Nat) : Int) (d : Int) = ((a * 16777216 + b * 65536 + c * 256 + d : Nat) : Int) := by
    rw [bits_or_u32_nat _ _ (by omega) (by omega)]
    congr 1
    have := or_hi (a * 65536 + b * 256 + c) 8 d (by omega)
    rw [show (a * 65536 + b * 256 + c) * 2 ^ 8 = a * 16777216 + b * 65536 + c * 256 by omega] at this
    exact this
  rw [e1, e2, e3]
theorem or4 {a b c d : Int} (ha : 0 ≤ a ∧ a ≤ 255) (hb : 0 ≤ b ∧ b ≤ 255) (hc : 0 ≤ c ∧ c ≤ 255) (hd : 0 ≤ d ∧ d ≤ 255) :
    bits BinOp.or .u32 (bits BinOp.or .u32 (bits BinOp.or .u32 (a * 16777216) (b * 65536)) (c * 256)) d = a * 16777216 + b * 65536 + c * 256 + d := by
  have := or4_nat a.toNat b.toNat c.toNat d.toNat (by omega) (by omega) (by omega) (by omega)
  rw [show ((a.toNat : Nat) : Int) = a by omega, show ((b.toNat : Nat) : Int) = b by omega, show ((c.toNat : Nat) : Int) = c by omega, show ((d.toNat : Nat) : Int) = d by omega] at this
  rw [this]; omega
/-- A number of 32 bits in four bytes. -/
def be4 (s : Nat) : List Int := [(s / 16777216 % 256 : Nat), (s / 65536 % 256 : Nat), (s / 256 % 256 : Nat), (s % 256 : Nat)]
theorem be4_len (s : Nat) : (be4 s).length = 4 := rfl
theorem be4_ran (s : Nat) : ∀ x ∈ be4 s, 0 ≤ x ∧ x ≤ 255 := by
  intro x hx
  simp only [be4, List.mem_cons, List.not_mem_nil, or_false] at hx
  rcases hx with h | h | h | h <;> omega
/-- The number that four bytes stand for. -/
def de4 (l : List Int) : Int := l.getD 0 0 * 16777216 + l.getD 1 0 * 65536 + l.getD 2 0 * 256 + l.getD 3 0
theorem de4_be4 (s : Nat) (h : s < 4294967296) (t : List Int) : de4 (be4 s ++ t) = (s : Int) := by
  simp [de4, be4]; omega
/-- The frame of a payload. -/
def frm (p : List Int) : List Int := numE p.length ++ (be4 (fnv p) ++ p)
/-- What is cut off: the payload, what remains, and the error. -/
def cutR (b : List Int) : List Int × St :=
  if (numR (b, 0)).2.2 = 0 then
    if (numR (b, 0)).1 < 0 then ([], ([], 1))
    else if 1048576 < (numR (b, 0)).1 then ([], ([], 5))
    else if ((numR (b, 0)).2.1.length : Int) < 4 + (numR (b, 0)).1 then ([], ([], 2))
    else if de4 (numR (b, 0)).2.1 = fnv (((numR (b, 0)).2.1.drop 4).take (numR (b, 0)).1.toNat) then
      (((numR (b, 0)).2.1.drop 4).take (numR (b, 0)).1.toNat, ((numR (b, 0)).2.1.drop (4 + (numR (b, 0)).1.toNat), 0))
    else ([], ([], 4))
  else ([], ([], (numR (b, 0)).2.2))
theorem numE_len10 {z : Int} (h1 : -9223372036854775808 ≤ z) (h2 : z ≤ 9223372036854775807) : (numE z).length ≤ 10 :=
  grp_len 9 _ (by have : (128:Nat)^(9+1) = 1180591620717411303424 := by decide
                  have := zig_lt h1 h2; omega)

/-- Ten bytes are enough for the number. -/
theorem dec_take : ∀ (b : List Int) (i acc k : Nat), i ≤ 9 → 10 ≤ i + k → (dec i acc (b.take k)).1 = (dec i acc b).1 ∧ (dec i acc (b.take k)).2.1 = (dec i acc b).2.1 ∧
    ((dec i acc b).1 = 0 → (b.take k).length - (dec i acc (b.take k)).2.2.length = b.length - (dec i acc b).2.2.length ∧ (dec i acc b).2.2 = b.drop (b.length - (dec i acc b).2.2.length) ∧ (dec i acc b).2.2.length < b.length)
  | [], i, acc, k, _, _ => by simp [dec]
  | x :: t, i, acc, 0, hi, hk => by omega
  | x :: t, i, acc, k + 1, hi, hk => by
    simp only [List.take_succ_cons, dec]
    split
    · rename_i h; simp
    · rename_i h
      split
      · rename_i h2
        have h9 : i ≠ 9 := by
          rintro rfl
          exact h (.inl ⟨rfl, by omega⟩)
        obtain ⟨h3, h4, h5⟩ := dec_take t (i + 1) (acc + (x % 128).toNat * 128 ^ i) k (by omega) (by omega)
        refine ⟨h3, h4, fun h0 => ?_⟩
        obtain ⟨h6, h7, h8⟩ := h5 h0
        have hl1 := dec_len' (t.take k) (i + 1) (acc + (x % 128).toNat * 128 ^ i)
        have hl2 := dec_len' t (i + 1) (acc + (x % 128).toNat * 128 ^ i)
        refine ⟨?_, ?_, ?_⟩
        · simp only [List.length_cons]; omega
        · rw [List.length_cons, show t.length + 1 - (dec (i + 1) (acc + (x % 128).toNat * 128 ^ i) t).2.2.length = (t.length - (dec (i + 1) (acc + (x % 128).toNat * 128 ^ i) t).2.2.length) + 1 by omega, List.drop_succ_cons]
          exact h7
        · simp only [List.length_cons]; omega
      · refine ⟨rfl, rfl, fun _ => ⟨?_, ?_, ?_⟩⟩
        · simp
        · simp
        · simp
where dec_len' : ∀ (b : List Int) (i acc : Nat), (dec i acc b).2.2.length ≤ b.length
  | [], _, _ => by simp [dec]
  | x :: t, i, acc => by
    simp only [dec]
    split
    · simp
    · split
      · have := dec_len' t (i + 1) (acc + (x % 128).toNat * 128 ^ i); simp; omega
      · simp
end Go.Proofs.YtobkafkknbdacaaDoor
