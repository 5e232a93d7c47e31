package player_test

import (
	"strings"
	"testing"

	"grapevine/player"
)

// The ten examples of the whole, as the document has them: lines, and behind the arrow the texts that Run returns.
const examples = `world 2; start 0; start 1; join 1 0; pool; frame 0; deliver 0; frame 0; deliver 0; peer 1; want 1 0 9 0 99; publish 0 5 6 hi; deliver 0; deliver 0; log; owed -> world 2; ok; ok; ok; pool 1 lost 0 and 0; 1 1 0; ok; 2 0 1; ok; up 1 0; ok; ok id 0 1 1; ok got 1 0 1 1; error 2; 1 1 0 1 1; none.
tick 0; world 1; world 13; world 2 5 6; start 2; start 0; start 0; tick 1; want 0 5 4 0 1; publish 0 10 0 x; publish 0 1 1 x; join 0 0; leave 1; tick 01; frame 0; peer 2 -> error 311; error 2; error 2; world 2; error 2; ok; error 54; error 53; ok; error 51; ok id 0 1 1; error 2; error 53; error 310; none; none.
world 2; start 0; start 1; join 1 0; deliver 0; deliver 0; want 1 0 9 0 99; publish 0 1 2 a; drop 0; owed; round; owed; log; round; pool -> world 2; ok; ok; ok; ok; ok; ok; ok id 0 1 1; ok; 1 1 0 1 1; round 1; none; 1 1 0 1 1; round 0; pool 0 lost 0 and 0.
world 2; start 0; want 0 0 4 0 99; publish 0 3 50 me; publish 0 5 50 me; log; owed; unwant 0; publish 0 3 50 x y -> world 2; ok; ok; ok id 0 1 1 got 0 0 1 1; ok id 0 1 2; 0 1 0 1 1; none; ok; ok id 0 1 3.
world 2; start 0; start 1; join 1 0; deliver 0; deliver 0; want 1 0 9 0 99; publish 0 1 2 a; bend 0 5 1; bend 0 5 1; frame 0; deliver 0; pool; owed -> world 2; ok; ok; ok; ok; ok; ok; ok id 0 1 1; ok; error 2; error 20; error 20; pool 0 lost 0 and 0; 1 1 0 1 1.
world 2; start 0; start 1; join 1 0; deliver 0; deliver 0; want 1 0 9 0 99; publish 0 1 2 a; publish 0 3 4 b; double 0; pool; move 2 0; frame 0; deliver 0; deliver 0; deliver 0; pool -> world 2; ok; ok; ok; ok; ok; ok; ok id 0 1 1; ok id 0 1 2; ok; pool 3 lost 0 and 0; ok; 10 0 1; ok got 1 0 1 1; ok; ok got 1 0 1 2; pool 0 lost 0 and 0.
world 2; start 0; start 1; join 1 0; deliver 0; deliver 0; want 1 0 9 0 99; publish 0 1 2 a; deliver 0; crash 1; start 1; peer 1; want 1 0 9 0 99; owed; join 1 0; deliver 0; deliver 0; round; log -> world 2; ok; ok; ok; ok; ok; ok; ok id 0 1 1; ok got 1 0 1 1; ok; ok; up 2; ok; 1 2 0 1 1; ok; ok; ok; round 1; 1 1 0 1 1, 1 2 0 1 1.
world 3; start 0; start 1; start 2; join 1 0; deliver 0; deliver 0; join 2 0; deliver 0; deliver 0; peer 0; peer 2; reach 1; leave 2; pool; deliver 0; deliver 0; peer 0; peer 2; reach 2; reach 0 -> world 3; ok; ok; ok; ok; ok; ok; ok; ok; ok; up 1 1 2; up 1 0 1; 0 1 2; ok; pool 2 lost 0 and 0; ok; ok; up 1 1; down 1; none; 0 1.
world 2; script 0d000d010a0100020000020000; script 0d00; script 0d; script 0d0c; script 0g; script 07010280000000800000098000000080000063; script 0900028000000180000002000161; script 020000; log -> world 2; ran 5 errors 0 got 0; ran 1 errors 1 got 0; error 10; error 280; error 310; ran 1 errors 0 got 0; ran 1 errors 0 got 0; ran 1 errors 0 got 1; 1 1 0 1 1.
world 2; start 0; start 1; join 1 0; deliver 0; deliver 0; want 1 0 4 0 49; publish 0 5 6 a; deliver 0; publish 0 4 49 b; deliver 0; want 1 5 9 0 99; publish 0 4 1 c; deliver 0; owed; round; owed; log -> world 2; ok; ok; ok; ok; ok; ok; ok id 0 1 1; ok; ok id 0 1 2; ok got 1 0 1 2; ok; ok id 0 1 3; ok; 1 1 0 1 1; round 0; 1 1 0 1 1; 1 1 0 1 2.`

func TestTenExamples(t *testing.T) {
	for i, example := range strings.Split(examples, "\n") {
		lines, want, _ := strings.Cut(strings.TrimSuffix(example, "."), " -> ")
		got := player.New().Run(strings.ReplaceAll(lines, "; ", "\n"))
		if got != strings.ReplaceAll(want, "; ", "\n")+"\n" {
			for j, text := range strings.Split(got, "\n") {
				t.Log(strings.Split(lines+"; ", "; ")[j], "->", text)
			}
			t.Errorf("example %d, want %s", i+1, want)
		}
	}
}

// The examples of the chapter.
func TestChapterExamples(t *testing.T) {
	lines := `world 2: world 2. start 0: ok; start 1: ok; join 1 0: ok; pool: pool 1 lost 0 and 0; frame 0: 1 1 0; deliver 0: ok; frame 0: 2 0 1; deliver 0: ok; peer 1: up 1 0; want 1 0 9 0 99: ok; publish 0 5 6 hi: ok id 0 1 1; deliver 0: ok got 1 0 1 1; deliver 0: error 2; log: 1 1 0 1 1; owed: none. start 0: error 54. frame 9: none`
	p := player.New()
	for _, l := range strings.Split(strings.ReplaceAll(lines, ". ", "; "), "; ") {
		line, want, _ := strings.Cut(l, ": ")
		if got, err := p.Do(line); got != want || err != 0 {
			t.Error(line, got, err)
		}
	}
}
