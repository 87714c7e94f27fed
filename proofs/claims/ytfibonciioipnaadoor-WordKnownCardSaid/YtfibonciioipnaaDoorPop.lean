/-
  How many bits of a word are 1, as math/bits counts them (three steps within bytes, then the bytes' sum); that it is 1 just for powers of 2. Plain arithmetic: it speaks of no program.
-/
namespace Go.Proofs.YtfibonciioipnaaDoor
namespace Pop

/-- A byte, n times over. -/
def rep (c : Nat) : Nat → Nat
  | 0 => 0
  | n + 1 => c + 256 * rep c n

theorem and_split (a b c d : Nat) (ha : a < 256) (hc : c < 256) : (a + 256 * b) &&& (c + 256 * d) = (a &&& c) + 256 * (b &&& d) := by
  have h1 := Nat.and_mod_two_pow (a := a + 256 * b) (b := c + 256 * d) (n := 8)
  have h2 := Nat.and_div_two_pow (a := a + 256 * b) (b := c + 256 * d) (n := 8)
  have e1 : (a + 256 * b) % 2 ^ 8 = a := by omega
  have e2 : (c + 256 * d) % 2 ^ 8 = c := by omega
  have e3 : (a + 256 * b) / 2 ^ 8 = b := by omega
  have e4 : (c + 256 * d) / 2 ^ 8 = d := by omega
  rw [e1, e2] at h1
  rw [e3, e4] at h2
  omega

def s1 (n x : Nat) : Nat := (x / 2 &&& rep 85 n) + (x &&& rep 85 n)
def s2 (n x : Nat) : Nat := (x / 4 &&& rep 51 n) + (x &&& rep 51 n)
def s3 (n x : Nat) : Nat := (x / 16 + x) &&& rep 15 n
def bytes (n x : Nat) : Nat := s3 n (s2 n (s1 n x))

theorem t1 : ∀ lo, lo < 256 → ∀ e, e < 2 → (lo / 2 + 128 * e) &&& 85 = lo / 2 &&& 85 := by decide +kernel
theorem t2 : ∀ lo, lo < 256 → ∀ e, e < 4 → (lo / 4 + 64 * e) &&& 51 = lo / 4 &&& 51 := by decide +kernel
theorem t3 : ∀ lo, lo < 69 → ∀ e, e < 5 → (lo / 16 + 16 * e + lo) &&& 15 = (lo / 16 + lo) &&& 15 := by decide +kernel
theorem s1_split (n lo hi : Nat) (h : lo < 256) : s1 (n + 1) (lo + 256 * hi) = s1 1 lo + 256 * s1 n hi := by
  have e : (lo + 256 * hi) / 2 = (lo / 2 + 128 * (hi % 2)) + 256 * (hi / 2) := by omega
  simp only [s1, rep, e]
  rw [and_split _ _ _ _ (by omega) (by decide), and_split _ _ _ _ h (by decide), t1 lo h _ (Nat.mod_lt _ (by decide))]
  simp only [Nat.mul_zero, Nat.add_zero]
  omega
theorem s2_split (n lo hi : Nat) (h : lo < 256) : s2 (n + 1) (lo + 256 * hi) = s2 1 lo + 256 * s2 n hi := by
  have e : (lo + 256 * hi) / 4 = (lo / 4 + 64 * (hi % 4)) + 256 * (hi / 4) := by omega
  simp only [s2, rep, e]
  rw [and_split _ _ _ _ (by omega) (by decide), and_split _ _ _ _ h (by decide), t2 lo h _ (Nat.mod_lt _ (by decide))]
  simp only [Nat.mul_zero, Nat.add_zero]
  omega
theorem s3_split (n lo hi : Nat) (h : lo ≤ 68) (hh : hi % 16 ≤ 4) : s3 (n + 1) (lo + 256 * hi) = s3 1 lo + 256 * s3 n hi := by
  have e : (lo + 256 * hi) / 16 + (lo + 256 * hi) = (lo / 16 + 16 * (hi % 16) + lo) + 256 * (hi / 16 + hi) := by omega
  simp only [s3, rep, e]
  rw [and_split _ _ _ _ (by omega) (by decide), t3 lo (by omega) _ (by omega)]
theorem one_lt : ∀ lo, lo < 256 → s1 1 lo < 256 ∧ s2 1 (s1 1 lo) ≤ 68 ∧ s2 1 (s1 1 lo) % 16 ≤ 4 ∧ bytes 1 lo ≤ 8 := by decide +kernel
theorem low_le (n x : Nat) : s2 n (s1 n x) % 16 ≤ 4 := by
  cases n with
  | zero => simp [s2, rep]
  | succ n =>
    have e : x = x % 256 + 256 * (x / 256) := by omega
    have h := one_lt (x % 256) (Nat.mod_lt _ (by decide))
    rw [e, s1_split _ _ _ (Nat.mod_lt _ (by decide)), s2_split _ _ _ h.1]
    omega
theorem bytes_split (n lo hi : Nat) (h : lo < 256) : bytes (n + 1) (lo + 256 * hi) = bytes 1 lo + 256 * bytes n hi := by
  have g := one_lt lo h
  unfold bytes
  rw [s1_split _ _ _ h, s2_split _ _ _ g.1, s3_split _ _ _ g.2.1 (low_le _ _)]

theorem divl (m a b : Nat) (h : a < m) : (a + m * b) / m = b := by
  rw [Nat.add_mul_div_left _ _ (by omega), Nat.div_eq_of_lt h, Nat.zero_add]
/-- The count, as math/bits reckons it. -/
def pop (x : Nat) : Nat :=
  let a := bytes 8 x
  let b := a + a / 256
  let c := b + b / 65536
  (c + c / 4294967296) % 128

theorem bytes8 (x : Nat) : ∃ b0 b1 b2 b3 b4 b5 b6 b7 r, b0 < 256 ∧ b1 < 256 ∧ b2 < 256 ∧ b3 < 256 ∧ b4 < 256 ∧ b5 < 256 ∧ b6 < 256 ∧ b7 < 256 ∧
    x = b0 + 256 * (b1 + 256 * (b2 + 256 * (b3 + 256 * (b4 + 256 * (b5 + 256 * (b6 + 256 * (b7 + 256 * r))))))) :=
  ⟨x % 256, x / 256 % 256, x / 256 / 256 % 256, x / 256 / 256 / 256 % 256, x / 256 / 256 / 256 / 256 % 256, x / 256 / 256 / 256 / 256 / 256 % 256, x / 256 / 256 / 256 / 256 / 256 / 256 % 256, x / 256 / 256 / 256 / 256 / 256 / 256 / 256 % 256, x / 256 / 256 / 256 / 256 / 256 / 256 / 256 / 256,
    by omega, by omega, by omega, by omega, by omega, by omega, by omega, by omega, by omega⟩
theorem pop_bytes (b0 b1 b2 b3 b4 b5 b6 b7 r : Nat) (h0 : b0 < 256) (h1 : b1 < 256) (h2 : b2 < 256) (h3 : b3 < 256) (h4 : b4 < 256) (h5 : b5 < 256) (h6 : b6 < 256) (h7 : b7 < 256) :
    pop (b0 + 256 * (b1 + 256 * (b2 + 256 * (b3 + 256 * (b4 + 256 * (b5 + 256 * (b6 + 256 * (b7 + 256 * r)))))))) = bytes 1 b0 + bytes 1 b1 + bytes 1 b2 + bytes 1 b3 + bytes 1 b4 + bytes 1 b5 + bytes 1 b6 + bytes 1 b7 := by
  have g0 := (one_lt b0 h0).2.2.2
  have g1 := (one_lt b1 h1).2.2.2
  have g2 := (one_lt b2 h2).2.2.2
  have g3 := (one_lt b3 h3).2.2.2
  have g4 := (one_lt b4 h4).2.2.2
  have g5 := (one_lt b5 h5).2.2.2
  have g6 := (one_lt b6 h6).2.2.2
  have g7 := (one_lt b7 h7).2.2.2
  unfold pop
  rw [bytes_split _ _ _ h0, bytes_split _ _ _ h1, bytes_split _ _ _ h2, bytes_split _ _ _ h3, bytes_split _ _ _ h4, bytes_split _ _ _ h5, bytes_split _ _ _ h6, bytes_split _ _ _ h7]
  have e0 : bytes 0 r = 0 := by simp [bytes, s3, rep]
  rw [e0]
  generalize bytes 1 b0 = c0 at *
  generalize bytes 1 b1 = c1 at *
  generalize bytes 1 b2 = c2 at *
  generalize bytes 1 b3 = c3 at *
  generalize bytes 1 b4 = c4 at *
  generalize bytes 1 b5 = c5 at *
  generalize bytes 1 b6 = c6 at *
  generalize bytes 1 b7 = c7 at *
  clear e0
  dsimp only
  rw [divl 256 c0 _ (by omega)]
  have hC : (c0 + 256 * (c1 + 256 * (c2 + 256 * (c3 + 256 * (c4 + 256 * (c5 + 256 * (c6 + 256 * (c7 + 256 * 0))))))) + (c1 + 256 * (c2 + 256 * (c3 + 256 * (c4 + 256 * (c5 + 256 * (c6 + 256 * (c7 + 256 * 0)))))))) = ((c0 + c1) + 256 * (c1 + c2)) + 65536 * (((c2 + c3) + 256 * (c3 + c4)) + 65536 * (((c4 + c5) + 256 * (c5 + c6)) + 65536 * ((c6 + c7) + 256 * c7))) := by omega
  rw [hC, divl 65536 _ _ (by omega)]
  have hE : ((c0 + c1) + 256 * (c1 + c2)) + 65536 * (((c2 + c3) + 256 * (c3 + c4)) + 65536 * (((c4 + c5) + 256 * (c5 + c6)) + 65536 * ((c6 + c7) + 256 * c7))) + (((c2 + c3) + 256 * (c3 + c4)) + 65536 * (((c4 + c5) + 256 * (c5 + c6)) + 65536 * ((c6 + c7) + 256 * c7))) = ((c0 + c1 + c2 + c3) + 256 * (c1 + c2 + c3 + c4) + 65536 * ((c2 + c3 + c4 + c5) + 256 * (c3 + c4 + c5 + c6))) + 4294967296 * ((c4 + c5 + c6 + c7) + 256 * (c5 + c6 + c7) + 65536 * ((c6 + c7) + 256 * c7)) := by omega
  rw [hE, divl 4294967296 _ _ (by omega)]
  have hG : ((c0 + c1 + c2 + c3) + 256 * (c1 + c2 + c3 + c4) + 65536 * ((c2 + c3 + c4 + c5) + 256 * (c3 + c4 + c5 + c6))) + 4294967296 * ((c4 + c5 + c6 + c7) + 256 * (c5 + c6 + c7) + 65536 * ((c6 + c7) + 256 * c7)) + ((c4 + c5 + c6 + c7) + 256 * (c5 + c6 + c7) + 65536 * ((c6 + c7) + 256 * c7)) = (c0 + c1 + c2 + c3 + c4 + c5 + c6 + c7) + 128 * (2 * (c1 + c2 + c3 + c4) + 512 * ((c2 + c3 + c4 + c5) + 256 * (c3 + c4 + c5 + c6)) + 33554432 * ((c4 + c5 + c6 + c7) + 256 * (c5 + c6 + c7) + 65536 * ((c6 + c7) + 256 * c7)) + 2 * (c5 + c6 + c7) + 512 * ((c6 + c7) + 256 * c7)) := by omega
  rw [hG, Nat.add_mul_mod_self_left, Nat.mod_eq_of_lt (by omega)]

theorem byte_zero : ∀ b, b < 256 → bytes 1 b = 0 → b = 0 := by decide +kernel
theorem byte_one : ∀ b, b < 256 → bytes 1 b = 1 → b = 1 ∨ b = 2 ∨ b = 4 ∨ b = 8 ∨ b = 16 ∨ b = 32 ∨ b = 64 ∨ b = 128 := by decide +kernel
theorem pop_pow : ∀ k, k < 64 → pop (2 ^ k) = 1 := by decide +kernel

theorem shifted {b : Nat} (h : b = 1 ∨ b = 2 ∨ b = 4 ∨ b = 8 ∨ b = 16 ∨ b = 32 ∨ b = 64 ∨ b = 128) : ∃ i, i < 8 ∧ b = 2 ^ i := by
  rcases h with h | h | h | h | h | h | h | h
  · exact ⟨0, by decide, h⟩
  · exact ⟨1, by decide, h⟩
  · exact ⟨2, by decide, h⟩
  · exact ⟨3, by decide, h⟩
  · exact ⟨4, by decide, h⟩
  · exact ⟨5, by decide, h⟩
  · exact ⟨6, by decide, h⟩
  · exact ⟨7, by decide, h⟩
theorem at_byte {x b : Nat} (j P : Nat) (hj : j < 8) (hP : P = 2 ^ (8 * j)) (hb : b < 256) (h1 : bytes 1 b = 1) (hx : x = P * b) : ∃ k, k < 64 ∧ x = 2 ^ k := by
  obtain ⟨i, hi, e⟩ := shifted (byte_one b hb h1)
  exact ⟨8 * j + i, by omega, by rw [hx, hP, e, ← Nat.pow_add]⟩
set_option maxHeartbeats 4000000 in
/-- One bit alone: just the powers of 2. -/
theorem pop_one (x : Nat) (hx : x < 18446744073709551616) : pop x = 1 ↔ ∃ k, k < 64 ∧ x = 2 ^ k := by
  constructor
  · intro h
    obtain ⟨b0, b1, b2, b3, b4, b5, b6, b7, r, h0, h1, h2, h3, h4, h5, h6, h7, e⟩ := bytes8 x
    have hr : r = 0 := by omega
    subst hr
    rw [e, pop_bytes _ _ _ _ _ _ _ _ _ h0 h1 h2 h3 h4 h5 h6 h7] at h
    have z0 := byte_zero b0 h0
    have z1 := byte_zero b1 h1
    have z2 := byte_zero b2 h2
    have z3 := byte_zero b3 h3
    have z4 := byte_zero b4 h4
    have z5 := byte_zero b5 h5
    have z6 := byte_zero b6 h6
    have z7 := byte_zero b7 h7
    have hc : bytes 1 b0 = 1 ∨ bytes 1 b1 = 1 ∨ bytes 1 b2 = 1 ∨ bytes 1 b3 = 1 ∨ bytes 1 b4 = 1 ∨ bytes 1 b5 = 1 ∨ bytes 1 b6 = 1 ∨ bytes 1 b7 = 1 := by omega
    rcases hc with c | c | c | c | c | c | c | c
    · exact at_byte 0 1 (by decide) (by decide) h0 c (by have a1 := z1 (by omega); have a2 := z2 (by omega); have a3 := z3 (by omega); have a4 := z4 (by omega); have a5 := z5 (by omega); have a6 := z6 (by omega); have a7 := z7 (by omega); omega)
    · exact at_byte 1 256 (by decide) (by decide) h1 c (by have a0 := z0 (by omega); have a2 := z2 (by omega); have a3 := z3 (by omega); have a4 := z4 (by omega); have a5 := z5 (by omega); have a6 := z6 (by omega); have a7 := z7 (by omega); omega)
    · exact at_byte 2 65536 (by decide) (by decide) h2 c (by have a0 := z0 (by omega); have a1 := z1 (by omega); have a3 := z3 (by omega); have a4 := z4 (by omega); have a5 := z5 (by omega); have a6 := z6 (by omega); have a7 := z7 (by omega); omega)
    · exact at_byte 3 16777216 (by decide) (by decide) h3 c (by have a0 := z0 (by omega); have a1 := z1 (by omega); have a2 := z2 (by omega); have a4 := z4 (by omega); have a5 := z5 (by omega); have a6 := z6 (by omega); have a7 := z7 (by omega); omega)
    · exact at_byte 4 4294967296 (by decide) (by decide) h4 c (by have a0 := z0 (by omega); have a1 := z1 (by omega); have a2 := z2 (by omega); have a3 := z3 (by omega); have a5 := z5 (by omega); have a6 := z6 (by omega); have a7 := z7 (by omega); omega)
    · exact at_byte 5 1099511627776 (by decide) (by decide) h5 c (by have a0 := z0 (by omega); have a1 := z1 (by omega); have a2 := z2 (by omega); have a3 := z3 (by omega); have a4 := z4 (by omega); have a6 := z6 (by omega); have a7 := z7 (by omega); omega)
    · exact at_byte 6 281474976710656 (by decide) (by decide) h6 c (by have a0 := z0 (by omega); have a1 := z1 (by omega); have a2 := z2 (by omega); have a3 := z3 (by omega); have a4 := z4 (by omega); have a5 := z5 (by omega); have a7 := z7 (by omega); omega)
    · exact at_byte 7 72057594037927936 (by decide) (by decide) h7 c (by have a0 := z0 (by omega); have a1 := z1 (by omega); have a2 := z2 (by omega); have a3 := z3 (by omega); have a4 := z4 (by omega); have a5 := z5 (by omega); have a6 := z6 (by omega); omega)
  · rintro ⟨k, hk, rfl⟩
    exact pop_pow k hk
end Pop
end Go.Proofs.YtfibonciioipnaaDoor
